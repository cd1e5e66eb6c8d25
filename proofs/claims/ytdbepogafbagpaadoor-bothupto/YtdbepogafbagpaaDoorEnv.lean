import Derived.Test.YtdbepogafbagpaaDoorIs
import Derived.Test.YtdbepogafbagpaaDoorShelf
import Derived.Lib.ItoaLen
import Derived.Lib.AppendIntMem
namespace Go.Proofs.YtdbepogafbagpaaDoor
open Go.RowKit

/-- What the calls lean on: the two sentinels and the table of powers, in blocks below N. -/
structure Env (N : Nat) (f c : Addr) (w : World) : Prop where
  gf : w.cell? ⟨0, 0, none⟩ = some (.iface 149 (.pointer (some f)))
  gc : w.cell? ⟨1, 0, none⟩ = some (.iface 149 (.pointer (some c)))
  ne : f ≠ c
  rf : ∃ cs t, w.heap[f.block]? = some (.cells cs t (0, 0))
  rc : ∃ cs t, w.heap[c.block]? = some (.cells cs t (0, 0))
  tab : Lib.TabIs Tryd.prog w "internal/strconv.uint64pow10" .u64 Lib.pow10Tab
  fN : f.block < N
  cN : c.block < N
  six : 6 ≤ N
  le : N ≤ w.heap.size

theorem Tryd.gPow : Tryd.prog.globalNamed "internal/strconv.uint64pow10" = some 3 := by kernel_rfl
theorem Env.below {N : Nat} {f c : Addr} {w w' : World} (E : Env N f c w) {B : Nat} (h : Below B w w') (hB : N ≤ B) : Env N f c w' := by
  have h6 := E.six
  have hf := E.fN
  have hc := E.cN
  refine ⟨(h.cell (p := ⟨0, 0, none⟩) (by show 0 < B; omega)).trans E.gf, (h.cell (p := ⟨1, 0, none⟩) (by show 1 < B; omega)).trans E.gc, E.ne, ?_, ?_, ?_, E.fN, E.cN, E.six, Nat.le_trans E.le h.size⟩
  · obtain ⟨cs, t, hr⟩ := E.rf; exact ⟨cs, t, (h.block _ (by omega)).trans hr⟩
  · obtain ⟨cs, t, hr⟩ := E.rc; exact ⟨cs, t, (h.block _ (by omega)).trans hr⟩
  · exact var?_below h Tryd.gPow (by omega) E.tab
theorem Env.here {N : Nat} {f c : Addr} {w w' : World} (E : Env N f c w) (h : Below w.heap.size w w') : Env N f c w' := E.below h E.le

theorem itoa_any {N : Nat} {f c : Addr} (n : Int) (w : World) (E : Env N f c w) (h0 : -9223372036854775808 ≤ n) (h1 : n ≤ 9223372036854775807) :
    Calls Tryd.prog 38 #[.int .i64 n] w fun e w' => ∃ s : ByteArray, e = .returned (.string s) ∧ s.size ≤ 21 ∧ Below w.heap.size w w' := by
  refine (Tryd.strconv_Itoa n h0 h1 w E.tab).mono ?_
  rintro e w' ⟨rfl, k, os, rfl⟩
  refine ⟨_, rfl, ?_, Lib.below_grow _ w (Nat.le_refl _) k os⟩
  have := Lib.itoa_length_le n h0 h1
  simpa [ByteArray.size] using this

theorem ErrOf.below {w w' : World} {B : Nat} (h : Below B w w') : ∀ {d : Nat} {v : Value} {a : Addr}, ErrOf w d v a → w.heap.size ≤ B → ErrOf w' d v a
  | 0, _, _, e, _ => e
  | _ + 1, _, _, ⟨b, v', e, hc, r⟩, hB => ⟨b, v', e, (h.cell (p := ⟨b, 1, none⟩) (Nat.lt_of_lt_of_le (block_lt_of_cell hc) hB)).trans hc, ErrOf.below h r hB⟩

/-- nil, or an error of the sentinel at a. -/
def numOf (f c : Addr) (r : Option Addr) : Int := match r with
  | none => 0
  | some a => if a = c then 1 else if a = f then 2 else 2
def ErrIs (w : World) (v : Value) (r : Option Addr) : Prop := match r with
  | none => v = .nilIface
  | some a => ∃ d, ErrOf w d v a
theorem ErrIs.below {w w' : World} {v : Value} {r : Option Addr} (h : ErrIs w v r) (hb : Below w.heap.size w w') : ErrIs w' v r := by
  cases r with
  | none => exact h
  | some a => obtain ⟨d, h⟩ := h; exact ⟨d, h.below hb (Nat.le_refl _)⟩
/-- wrapped once more, in a new block -/
theorem ErrOf.wrap {w : World} {d : Nat} {v : Value} {a : Addr} (h : ErrOf w d v a) (s : ByteArray) : ErrOf (w.alloc (.cells #[.string s, v] 78)) (d + 1) (.iface 76 (.pointer (some ⟨w.heap.size, 0, none⟩))) a :=
  ⟨w.heap.size, v, rfl, by simp [World.cell?_alloc_at], h.below ((Below.refl w.heap.size w).alloc (Nat.le_refl _) _) (Nat.le_refl _)⟩

set_option maxRecDepth 100000 in
set_option maxHeartbeats 1000000 in
theorem number_any {N : Nat} {f c : Addr} (v : Value) (r : Option Addr) (w : World) (E : Env N f c w) (hr : r = none ∨ r = some f ∨ r = some c) (hE : ErrIs w v r) :
    Calls Tryd.prog 26 #[v] w fun e w' => e = .returned (.int .i64 (numOf f c r)) ∧ w' = w := by
  rcases hr with rfl | rfl | rfl
  · obtain rfl := hE
    clear E
    go_enter Tryd.func26, Tryd.ntmps26
    go_wp2
    go_ret
    exact ⟨rfl, rfl⟩
  · obtain ⟨d, hE⟩ := hE
    obtain ⟨t', p', rfl⟩ := hE.shape
    obtain ⟨cf, tf, rf⟩ := E.rf
    obtain ⟨cc, tc, rc⟩ := E.rc
    have gc := E.gc
    have HN : Hid (numOf f c (some f) = 2) := by show _ = _; simp [numOf, E.ne]
    have HI := is_any d _ f c cf cc tf tc w hE rf rc
    rw [decide_eq_false E.ne] at HI
    have HJ : Hid (Calls Tryd.prog 39 #[.iface t' p', .iface 149 (.pointer (some c))] w fun e w' => e = .returned (.bool false) ∧ w' = w) := HI
    clear HI hE E rf rc
    go_enter Tryd.func26, Tryd.ntmps26
    go_wp2_with (go_at_call 39; refine HJ.out.mono ?_; rintro e w' ⟨rfl, rfl⟩)
    go_ret
    exact ⟨congrArg (fun x => Ending.returned (.int .i64 x)) HN.out.symm, rfl⟩
  · obtain ⟨d, hE⟩ := hE
    obtain ⟨t', p', rfl⟩ := hE.shape
    obtain ⟨cc, tc, rc⟩ := E.rc
    have gc := E.gc
    have HN : Hid (numOf f c (some c) = 1) := by show _ = _; simp [numOf]
    have HI := is_any d _ c c cc cc tc tc w hE rc rc
    rw [decide_eq_true rfl] at HI
    have HJ : Hid (Calls Tryd.prog 39 #[.iface t' p', .iface 149 (.pointer (some c))] w fun e w' => e = .returned (.bool true) ∧ w' = w) := HI
    clear HI hE E rc
    go_enter Tryd.func26, Tryd.ntmps26
    go_wp2_with (go_at_call 39; refine HJ.out.mono ?_; rintro e w' ⟨rfl, rfl⟩)
    go_ret
    exact ⟨congrArg (fun x => Ending.returned (.int .i64 x)) HN.out.symm, rfl⟩
end Go.Proofs.YtdbepogafbagpaaDoor
