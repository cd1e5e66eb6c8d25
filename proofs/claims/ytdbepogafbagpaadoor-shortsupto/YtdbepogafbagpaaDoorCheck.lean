import Derived.Test.YtdbepogafbagpaaDoorEnv
import Derived.Test.YtdbepogafbagpaaDoorOurs
namespace Go.Proofs.YtdbepogafbagpaaDoor
open Go.RowKit

theorem addStr (a b : ByteArray) (n m : Nat) (ha : a.size ≤ n) (hb : b.size ≤ m) (h : n + m ≤ 1000000) : ∃ s : ByteArray, s.size ≤ n + m ∧ ∀ w, (Op.stringOp .add a b).run Tryd.prog w = .ok (.string s) w :=
  ⟨a ++ b, by rw [ByteArray.size_append]; omega, fun w => run_string_add_sum (w := w) a b (by omega)⟩
def ptVal (p : Pt) : Value := .agg #[.int .i64 p.k, .int .i64 p.n, .string p.t]

/-- an error of depth 1, boxed in a new block -/
theorem errIs_new {w : World} {a : Addr} {n : Nat} (hn : w.heap.size = n) (s : ByteArray) : ErrIs (w.alloc (.cells #[.string s, .iface 149 (.pointer (some a))] 78)) (.iface 76 (.pointer (some ⟨n, 0, none⟩))) (some a) := by
  subst hn
  exact ⟨1, ErrOf.wrap (d := 0) rfl s⟩

set_option maxRecDepth 100000 in
set_option maxHeartbeats 1000000 in
theorem checkPart_any {N : Nat} {f c : Addr} (p : Pt) (w : World) (E : Env N f c w) (hk0 : -9223372036854775808 ≤ p.k) (hk1 : p.k ≤ 9223372036854775807) (hts : p.t.size ≤ 1048576) :
    Calls Tryd.prog 50 #[.agg #[.int .i64 p.k, .int .i64 p.n, .string p.t]] w fun e w' => ∃ v, e = .returned v ∧ ErrIs w' v (if okPt p then none else some c) ∧ Below w.heap.size w w' := by
  have gc := E.gc
  have gsz : 1 < w.heap.size := by have := E.six; have := E.le; omega
  obtain ⟨pk, pn, pt⟩ := p
  simp only at *
  by_cases h1 : pk = 1 ∨ pk = 3
  · have h12 : (pk == 2) = false := by simp; omega
    by_cases hn : pn ≤ 0
    · have HR : Hid ((if okPt ⟨pk, pn, pt⟩ then none else some c) = some c) := by show _ = _; rw [if_neg]; simp [okPt, show ¬ 1 ≤ pn by omega]; omega
      rw [HR.out]
      rcases h1 with rfl | rfl
      all_goals
        go_enter Tryd.func50, Tryd.ntmps50
        go_wp2
        go_ret
        exact ⟨.iface 76 (.pointer (some ⟨w.heap.size + 1, 0, none⟩)), rfl, errIs_new (by simp) _, ((Below.refl _ _).alloc (Nat.le_refl _) _).alloc (by simp) _⟩
    · cases ht : pt.toList.isEmpty with
      | false =>
        have HR : Hid ((if okPt ⟨pk, pn, pt⟩ then none else some c) = some c) := by show _ = _; rw [if_neg]; simp only [okPt, ht]; simp; omega
        rw [HR.out]
        rcases h1 with rfl | rfl
        all_goals
          go_enter Tryd.func50, Tryd.ntmps50
          go_wp2
          go_ret
          exact ⟨.iface 76 (.pointer (some ⟨w.heap.size + 1, 0, none⟩)), rfl, errIs_new (by simp) _, ((Below.refl _ _).alloc (Nat.le_refl _) _).alloc (by simp) _⟩
      | true =>
        have HR : Hid ((if okPt ⟨pk, pn, pt⟩ then none else some c) = none) := by show _ = _; rw [if_pos]; simp only [okPt, ht]; simp; omega
        rw [HR.out]
        rcases h1 with rfl | rfl
        all_goals
          go_enter Tryd.func50, Tryd.ntmps50
          go_wp2
          go_ret
          exact ⟨_, rfl, rfl, (Below.refl _ _).alloc (Nat.le_refl _) _⟩
  · by_cases h2 : pk = 2
    · subst h2
      by_cases hn : pn = 0
      · subst hn
        cases ht : pt.toList.isEmpty with
        | false =>
          have HR : Hid ((if okPt ⟨2, 0, pt⟩ then none else some c) = none) := by show _ = _; rw [if_pos]; simp [okPt, ht]
          rw [HR.out]
          go_enter Tryd.func50, Tryd.ntmps50
          go_wp2
          go_ret
          exact ⟨_, rfl, rfl, (Below.refl _ _).alloc (Nat.le_refl _) _⟩
        | true =>
          have HR : Hid ((if okPt ⟨2, 0, pt⟩ then none else some c) = some c) := by show _ = _; rw [if_neg]; simp [okPt, ht]
          rw [HR.out]
          go_enter Tryd.func50, Tryd.ntmps50
          go_wp2
          go_ret
          exact ⟨.iface 76 (.pointer (some ⟨w.heap.size + 1, 0, none⟩)), rfl, errIs_new (by simp) _, ((Below.refl _ _).alloc (Nat.le_refl _) _).alloc (by simp) _⟩
      · have HR : Hid ((if okPt ⟨2, pn, pt⟩ then none else some c) = some c) := by show _ = _; rw [if_neg]; simp [okPt, hn]
        rw [HR.out]
        have hn' : (pn != 0) = true := by rw [bne_iff_ne]; exact hn
        clear hn
        go_enter Tryd.func50, Tryd.ntmps50
        go_wp2
        go_ret
        exact ⟨.iface 76 (.pointer (some ⟨w.heap.size + 1, 0, none⟩)), rfl, errIs_new (by simp) _, ((Below.refl _ _).alloc (Nat.le_refl _) _).alloc (by simp) _⟩
    · have HR : Hid ((if okPt ⟨pk, pn, pt⟩ then none else some c) = some c) := by show _ = _; rw [if_neg]; simp [okPt, h2]; omega
      rw [HR.out]
      have g1 : (pk == 1) = false := by simp; omega
      have g2 : (pk == 2) = false := by simp; omega
      have g3 : (pk == 3) = false := by simp; omega
      clear h1 h2
      go_enter Tryd.func50, Tryd.ntmps50
      go_wp2
      go_region_held3 (fun w' => w'.cell? ⟨w.heap.size, 0, none⟩ = some (.int .i64 pk) ∧ w'.cell? ⟨1, 0, none⟩ = some (.iface 149 (.pointer (some c))))
        (first
          | go_keep
          | (go_split_ands
             refine ⟨?_, ?_⟩
             · (rw [hb.cell (p := ⟨w.heap.size, 0, none⟩) (by simp)]; simp)
             · (rw [hb.cell (p := ⟨1, 0, none⟩) (by simp; omega)]; simp; assumption)))
        ((go_at_call 38; refine (itoa_any (N := N) (f := f) (c := c) pk _ (by exact E.here (((Below.refl _ _).alloc (Nat.le_refl _) _).drew)) hk0 hk1).mono ?_; rintro e w1 ⟨s, rfl, hs, hb⟩; obtain ⟨s2, hs2, hadd⟩ := addStr ⟨#[107, 105, 110, 100, 32]⟩ s 5 21 (by decide) hs (by omega)))
      have hb2 : Hid (Below w.heap.size w w1) := ((Below.refl _ _).alloc (Nat.le_refl _) _).drew.trans (hb.mono (by simp))
      go_wp2
      go_ret
      exact ⟨.iface 76 (.pointer (some ⟨w1.heap.size, 0, none⟩)), rfl, errIs_new rfl _, hb2.out.alloc hb2.out.size _⟩
end Go.Proofs.YtdbepogafbagpaaDoor
