/- The library's contracts at this program, strings.Trim's among them. -/
import Derived.Test.YthkbhcefckbcnaaGreatDoorShelf
import Derived.Shelf.Strings.SlTrimAscii
