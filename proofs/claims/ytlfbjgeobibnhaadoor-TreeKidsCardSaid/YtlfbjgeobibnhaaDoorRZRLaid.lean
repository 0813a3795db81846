/-
  PLAIN: the tables that are laid (OLaid), under this layer's name.
-/
import Derived.Test.YtlfbjgeobibnhaaDoorRZOLaid
