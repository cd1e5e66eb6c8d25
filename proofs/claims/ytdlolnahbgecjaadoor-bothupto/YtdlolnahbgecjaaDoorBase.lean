import Derived.Test.YtdlolnahbgecjaaDoorProg
import Derived.WalkKit
import Derived.WalkSpells
import Derived.WalkLawsBesides
namespace Go.Proofs.YtdlolnahbgecjaaDoor
open Go.RowKit

/-- A part of a change, as plain data. -/
structure Pt where
  k : Int
  n : Int
  t : ByteArray

def nth (ps : List Pt) (i : Nat) : Pt := ps.getD i ⟨0, 0, ByteArray.empty⟩

/-- The parts lie in memory, from ⟨b, off⟩ on, three cells each. -/
def At (w : World) (b off : Nat) (ps : List Pt) : Prop :=
  ∀ i, i < ps.length → w.cell? ⟨b, off + i * 3, none⟩ = some (.int .i64 (nth ps i).k) ∧ w.cell? ⟨b, off + i * 3 + 1, none⟩ = some (.int .i64 (nth ps i).n) ∧ w.cell? ⟨b, off + i * 3 + 2, none⟩ = some (.string (nth ps i).t)

set_option maxHeartbeats 400000 in
theorem num_any (a : Int) (w : World) (_h0 : 0 ≤ a) (_h1 : a ≤ 100) :
    Calls Tryd.prog 13 #[.int .i64 a] w fun e w' => e = .returned (.int .i64 a) ∧ w' = w := by
  go_enter Tryd.func13, Tryd.ntmps13
  go_wp2
  go_ret
  exact ⟨rfl, rfl⟩

end Go.Proofs.YtdlolnahbgecjaaDoor
