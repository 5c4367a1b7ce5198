/-
  All.
-/
import Derived.Test.YtkdhkljnpalajaaBi
import Derived.Test.YtkdhkljnpalajaaG5
import Derived.Test.YtkdhkljnpalajaaBx
import Derived.Test.YtkdhkljnpalajaaG6
import Derived.Test.YtkdhkljnpalajaaG1
