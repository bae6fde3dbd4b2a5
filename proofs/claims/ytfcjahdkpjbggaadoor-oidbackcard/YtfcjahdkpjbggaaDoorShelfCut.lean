/-
  strings.Cut lies with the library's other functions.
-/
import Derived.Test.YtfcjahdkpjbggaaDoorShelf
