/- Own texts, put together: Zc Zd Ze Zf. -/
import Derived.Test.YtkgnlobakicnjaaDoorQ1
namespace Go.Proofs.YtkgnlobakicnjaaDoor
/- The reference's trim. -/
section
open Go.RowKit
end

/- The reference's Neg; trim of any number. -/
section
open Go.RowKit
end

/- The reference's Low. -/
section
open Go.RowKit
end

/- The reference's High. -/
section
open Go.RowKit
end
end Go.Proofs.YtkgnlobakicnjaaDoor
