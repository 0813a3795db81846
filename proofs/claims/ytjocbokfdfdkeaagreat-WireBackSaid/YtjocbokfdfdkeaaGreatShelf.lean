/- The contracts of the library functions at this seat: none is used; what the texts name of the plain part of the shelf. -/
import Derived.Shelf.Small.Strs
import Derived.Test.YtjocbokfdfdkeaaGreatProg
