/- The contracts of the library's functions at this seat's translation, laid by the kit's command; no walk. -/
import Derived.Shelf.Small.Strs
import Derived.Test.YthlalmoapbdccaaDoorProg
