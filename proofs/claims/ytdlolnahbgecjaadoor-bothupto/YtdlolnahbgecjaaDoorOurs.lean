import Derived.Test.YtdlolnahbgecjaaDoorRefFit
import Derived.Deep.RegionHeld3
import Derived.Deep.AppendLies
namespace Go.Proofs.YtdlolnahbgecjaaDoor
open Go.RowKit

/-- the cells of a list of parts -/
def cellsOf : List Pt → List Value
  | [] => []
  | p :: r => .int .i64 p.k :: .int .i64 p.n :: .string p.t :: cellsOf r
theorem cellsOf_append (a b : List Pt) : cellsOf (a ++ b) = cellsOf a ++ cellsOf b := by
  induction a with
  | nil => rfl
  | cons p r ih => simp [cellsOf, ih]
theorem cellsOf_length (a : List Pt) : (cellsOf a).length = a.length * 3 := by
  induction a with
  | nil => rfl
  | cons p r ih => simp [cellsOf, ih]; omega
theorem take_nth (ps : List Pt) (k : Nat) (h : k < ps.length) : ps.take (k + 1) = ps.take k ++ [nth ps k] := by
  rw [List.take_succ_eq_append_getElem h]; simp [nth, h]
theorem cellsOf_get (ps : List Pt) (i : Nat) (h : i < ps.length) : (cellsOf ps)[i * 3]? = some (.int .i64 (nth ps i).k) ∧ (cellsOf ps)[i * 3 + 1]? = some (.int .i64 (nth ps i).n) ∧ (cellsOf ps)[i * 3 + 2]? = some (.string (nth ps i).t) := by
  induction ps generalizing i with
  | nil => simp at h
  | cons p r ih =>
    cases i with
    | zero => simp [cellsOf, nth]
    | succ i =>
      have := ih i (by simpa using h)
      have e : nth (p :: r) (i + 1) = nth r i := by simp [nth]
      rw [e, show (i + 1) * 3 = i * 3 + 3 by omega]
      simpa [cellsOf] using this

/-- The slice value v, of the call's own memory from block 'base' on, holds the parts ps. -/
def Owns (w : World) (base : Nat) (v : Value) (ps : List Pt) : Prop := w.ownsRow base 61 3 v ps.length (cellsOf ps)
theorem Tryd.info61 : (Tryd.prog.info? 61).map (fun i => (i.zero, i.size, i.bytes)) = some (some (.agg #[.int .i64 0, .int .i64 0, .string ByteArray.empty]), 3, 32) := by kernel_rfl

/-- What is owned, as cells. -/
theorem Owns.form {w : World} {base : Nat} {v : Value} {ps : List Pt} (h : Owns w base v ps) : ∃ ao g cap, v = .slice ao ps.length cap ∧ (0 < ps.length → ao = some ⟨g, 0, none⟩ ∧ base ≤ g ∧ g < w.heap.size) ∧ At w g 0 ps ∧ ps.length ≤ cap := by
  obtain ⟨hl, h⟩ := h
  rcases h with ⟨rfl, h0⟩ | ⟨g, cap, cur, rfl, hb, hh, hc, hm, hs, ht⟩
  · exact ⟨none, 0, 0, by rw [h0], fun h => by omega, fun i hi => by omega, by omega⟩
  · refine ⟨some ⟨g, 0, none⟩, g, cap, rfl, fun _ => ⟨rfl, hb, ?_⟩, ?_, hc⟩
    · exact (Array.getElem?_eq_some_iff.1 hh).1
    · intro i hi
      have hg := cellsOf_get ps i hi
      rw [← ht] at hg
      have key : ∀ j u, (cur.toList.take (ps.length * 3))[j]? = some u → w.cell? ⟨g, j, none⟩ = some u := fun j u hu => by
        rw [cell_of_row w g j cur 61 (0, 0) hh]
        rw [List.getElem?_take] at hu
        split at hu
        · simpa using hu
        · cases hu
      simp only [Nat.zero_add]
      exact ⟨key _ _ hg.1, key _ _ hg.2.1, key _ _ hg.2.2⟩

theorem ownsRow_far {w : World} {base e size n : Nat} {v : Value} {xs : List Value} (h : w.ownsRow base e size v n xs) (b : Nat) (hb : b < base) : v.ownBlock ≠ some b := by
  obtain ⟨_, h⟩ := h
  rcases h with ⟨rfl, _⟩ | ⟨g, cap, cur, rfl, hg, _⟩
  · simp [Value.ownBlock]
  · simp [Value.ownBlock]; omega
theorem ownsRow_block {w : World} {base e size n : Nat} {v : Value} {xs : List Value} (h : w.ownsRow base e size v n xs) : ∀ k, v.ownBlock = some k → base ≤ k := by
  obtain ⟨_, h⟩ := h
  rcases h with ⟨rfl, _⟩ | ⟨g, cap, cur, rfl, hg, _⟩
  · simp [Value.ownBlock]
  · simp [Value.ownBlock]; omega

set_option maxRecDepth 100000 in
set_option maxHeartbeats 3200000 in
theorem ours_pos (ps : List Pt) (b off cap : Nat) (w : World) (A : Arg w ps (some ⟨b, off, none⟩) b off) (hz : 0 < ps.length) :
    Calls Tryd.prog 11 #[.slice (some ⟨b, off, none⟩) ps.length cap] w fun e w' => ∃ v, e = .returned v ∧ Owns w' w.heap.size v ps ∧ Below w.heap.size w w' := by
  have hblt := A.lt hz
  have hlen := A.len
  obtain ⟨i0, hi0, hz0, hz1, hz2⟩ := info_parts Tryd.info61
  go_enter Tryd.func11, Tryd.ntmps11
  go_wp2
  go_loopw [3, 4] (fun v i wr => ∃ k : Nat, k ≤ ps.length ∧ i = .int .i64 k ∧ Owns wr w.heap.size v (ps.take k) ∧ Below w.heap.size w wr) (fun _ i _ => ps.length - (intOf i).toNat)
  case atStart => exact ⟨0, Nat.zero_le _, rfl, World.ownsRow_nil _ _ _ _, Below.refl _ _⟩
  case round =>
    obtain ⟨k, hk, rfl, hown, hbl⟩ := hrel
    by_cases hlt : k < ps.length
    · obtain ⟨c0, c1, c2⟩ := A.cells k hlt
      have d0 := (hbl.cell (p := ⟨b, off + k * 3, none⟩) hblt).trans c0
      have d1 := (hbl.cell (p := ⟨b, off + k * 3 + 1, none⟩) hblt).trans c1
      have d2 := (hbl.cell (p := ⟨b, off + k * 3 + 2, none⟩) hblt).trans c2
      have hk0 : (0 : Int) ≤ (k : Int) := Int.natCast_nonneg _
      have hk1 : (k : Int) < (ps.length : Int) := by omega
      have hsz := hbl.size
      have hrow : wr.ownsRow w.heap.size 61 3 u3 k (cellsOf (ps.take k)) := by have h := hown; unfold Owns at h; rwa [List.length_take, Nat.min_eq_left hk] at h
      have hfar := ownsRow_far hrow b hblt
      have hb2 : b < wr.heap.size := by omega
      have HO : Hid (∀ v w1, w1.ownsRow w.heap.size 61 3 v (k + 1) (cellsOf (ps.take k) ++ [.int .i64 (nth ps k).k, .int .i64 (nth ps k).n, .string (nth ps k).t]) → Owns w1 w.heap.size v (ps.take (k + 1))) := by
        intro v w1 h
        unfold Owns
        rw [List.length_take, Nat.min_eq_left (by omega), take_nth ps k hlt, cellsOf_append]
        exact h
      have HB : Hid (∀ k', u3.ownBlock = some k' → w.heap.size ≤ k') := ownsRow_block hrow
      have H0 : Hid (wr.ownsRow w.heap.size 61 3 u3 k (cellsOf (ps.take k))) := hrow
      clear hown c0 c1 c2 hrow
      go_wp2_with fail
      go_region_held3 (fun w' => w'.cell? ⟨b, off + k * 3, none⟩ = some (.int .i64 (nth ps k).k) ∧ w'.cell? ⟨b, off + k * 3 + 1, none⟩ = some (.int .i64 (nth ps k).n) ∧ w'.cell? ⟨b, off + k * 3 + 2, none⟩ = some (.string (nth ps k).t))
        (first
          | go_keep
          | (go_split_ands
             refine ⟨?_, ?_, ?_⟩
             · (rw [hgrow.cell_far _ (by simp; omega) (Ne.symm hfar)]; assumption)
             · (rw [hgrow.cell_far _ (by simp; omega) (Ne.symm hfar)]; assumption)
             · (rw [hgrow.cell_far _ (by simp; omega) (Ne.symm hfar)]; assumption)))
        ((refine step_append_lies _ (by rfl) _ _ _ (by rfl) w.heap.size 61 i0 _ 3 32 Tryd.underlying26 hi0 hz0 hz1 hz2 rfl (by omega) u3 k (cellsOf (ps.take k)) (by rfl) ((H0.out.alloc _).drew)
            ⟨wr.heap.size, 0, none⟩ 1 1 [.int .i64 (nth ps k).k, .int .i64 (nth ps k).n, .string (nth ps k).t] (by rfl) (by rfl) (World.news_of_block (cs := #[.int .i64 (nth ps k).k, .int .i64 (nth ps k).n, .string (nth ps k).t]) (t := 61) (fr := (0, 0)) (heap_alloc_new wr _)) (by simp [Value.oneCell'])
            (by omega) (by unfold maxLen; omega) (by omega) (by simp; omega) (wr.heap.size + 1) (by simp) ?_; intro gg cap w1 hown1 hgrow hat hlt'))
      have RB : Hid (Below w.heap.size w w1) := ((hbl.alloc hsz _).drew).grown hgrow (by simp; omega) HB.out
      have RO : Hid (Owns w1 w.heap.size _ (ps.take (k + 1))) := HO.out _ _ hown1
      clear hown1 hgrow hat d0 d1 d2
      go_wp2
      go_roundw
      case rel => exact ⟨k + 1, by omega, by go_num, RO.out, RB.out⟩
      case measure => simp [intOf]; omega
    · go_wp2
      go_ret
      exact ⟨_, rfl, by rw [List.take_of_length_le (by omega)] at hown; exact hown, hbl⟩

theorem ours_any (ps : List Pt) (ao : Option Addr) (b off cap : Nat) (w : World) (A : Arg w ps ao b off) :
    Calls Tryd.prog 11 #[.slice ao ps.length cap] w fun e w' => ∃ v, e = .returned v ∧ Owns w' w.heap.size v ps ∧ Below w.heap.size w w' := by
  rcases Nat.eq_zero_or_pos ps.length with hz | hz
  · have hO : ∀ w : World, Owns w w.heap.size (.slice none 0 0) ps := fun w => by
      have : ps = [] := List.eq_nil_of_length_eq_zero hz
      subst this; exact World.ownsRow_nil _ _ _ _
    have HO : Hid (∀ w : World, Owns w w.heap.size (.slice none 0 0) ps) := hO
    rw [hz]
    clear hO A hz
    go_enter Tryd.func11, Tryd.ntmps11
    go_wp2
    refine wp_loop_rounds 1 ?_
    rw [rounds_succ]
    go_wp2
    go_ret
    exact ⟨_, rfl, HO.out _, Below.refl _ _⟩
  · obtain rfl := A.ao hz
    exact ours_pos ps b off cap w A hz
end Go.Proofs.YtdlolnahbgecjaaDoor
