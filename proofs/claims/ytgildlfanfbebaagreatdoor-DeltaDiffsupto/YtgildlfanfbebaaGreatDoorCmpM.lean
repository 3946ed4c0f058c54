/- The order of paths: as Compare has it (in this seat). -/
import Derived.Test.YtgildlfanfbebaaGreatDoorCompare
