/- The library's contracts at this program, strings.Trim's among them. -/
import Derived.Test.YtgjeppphbbnilaaGreatDoorShelf
import Derived.Shelf.Strings.SlTrimAscii
