/-
  The document's own table: what an order does to it, in whatever case. Nothing here is claimed by itself.
-/
import Derived.Test.YtkkffgojblopjaaR3a
import Derived.Test.YtkkffgojblopjaaR3b1
import Derived.Test.YtkkffgojblopjaaR3b2
import Derived.Test.YtkkffgojblopjaaR3c
import Derived.Test.YtkkffgojblopjaaR3d
import Derived.Test.YtkkffgojblopjaaR3e1
import Derived.Test.YtkkffgojblopjaaR3e2
import Derived.Test.YtkkffgojblopjaaR3e3
import Derived.Test.YtkkffgojblopjaaR3f
import Derived.Test.YtkkffgojblopjaaR3g
import Derived.Test.YtkkffgojblopjaaR3h
namespace Go.Proofs.Ytkkffgojblopjaa
open Go.RowKit

def ansV (a : An) : Value := .agg #[.int .i64 a.code, .int .i64 a.jb, .int .i64 a.tr]
def odV (o : Od) : Value := .agg #[.int .i64 o.k, .int .i64 o.now, .int .i64 o.jb, .int .i64 o.tr, .int .i64 o.wk, .int .i64 o.tm]

theorem did_any (T : Tb) (o : Od) (w : World) (hI : Inv T) :
    Calls Try.prog 51 #[.agg T.cells, odV o] w fun e w' => e = .returned (.tuple #[.agg (doT T o).1.cells, ansV (doT T o).2]) ∧ Chg [] w w' := by
  obtain ⟨k, now, jb, tr, wk, tm⟩ := o
  by_cases hc : chk ⟨k, now, jb, tr, wk, tm⟩ = 0
  · by_cases e1 : k = 1
    · by_cases es : ((passT T now).js jb.toNat).st = 0
      · exact did_add1 T k now jb tr wk tm w hI hc e1 es
      · exact did_add2 T k now jb tr wk tm w hI hc e1 es
    by_cases e2 : k = 2
    · exact did_take T k now jb tr wk tm w hI hc e2
    by_cases es : ((passT T now).js jb.toNat).st = 0
    · exact did_absent T k now jb tr wk tm w hI hc e1 e2 es
    by_cases f1 : ((passT T now).js jb.toNat).st = 2
    · by_cases f2 : ((passT T now).js jb.toNat).wk = wk
      · by_cases f3 : ((passT T now).js jb.toNat).tr = tr
        · have hk := (chk_zero hc).1
          simp only at hk
          by_cases e3 : k = 3
          · exact did_renew T k now jb tr wk tm w hI hc e3 f1 f2 f3
          by_cases e4 : k = 4
          · exact did_done T k now jb tr wk tm w hI hc e4 f1 f2 f3
          exact did_drop T k now jb tr wk tm w hI hc (by omega) f1 f2 f3
        · exact did_other3 T k now jb tr wk tm w hI hc e1 e2 es f1 f2 f3
      · exact did_other2 T k now jb tr wk tm w hI hc e1 e2 es f1 f2
    · exact did_other1 T k now jb tr wk tm w hI hc e1 e2 es f1
  · exact did_code T k now jb tr wk tm w hc

end Go.Proofs.Ytkkffgojblopjaa
