import Derived.Test.YtdbepogafbagpaaDoorKeep
namespace Go.Proofs.YtdbepogafbagpaaDoor
open Go.RowKit
set_option linter.unusedVariables false

theorem Wt.setDrop {base wb : Nat} {w : World} {s : WS} {outv p bufv : Value} (W : Wt base wb w s outv p bufv) (d : Int) : Wt base wb (w.setCell ⟨wb, 3, none⟩ (.int .i64 d)) ⟨s.out, s.add, d⟩ outv p bufv ∧ Fr base [107, 61, 5] w (w.setCell ⟨wb, 3, none⟩ (.int .i64 d)) := by
  have hw := wr_set w wb 3 (.int .i64 d)
  exact ⟨⟨W.blk.set 3 _, W.p, ownsRow_wr W.out hw (fun k hk (e : k = wb) => own_ne W.out W.blk (by decide) (by rw [hk, e])), ownsRow_wr W.buf hw (fun k hk (e : k = wb) => own_ne W.buf W.blk (by decide) (by rw [hk, e])), W.bb, Nat.le_trans W.bw hw.size⟩, fr_blk W.blk (by simp) W.bb hw⟩

set_option maxRecDepth 100000 in
set_option maxHeartbeats 4000000 in
theorem lay_any (base wb : Nat) (w : World) (s : WS) (outv p bufv : Value) (q : Pt) (W : Wt base wb w s outv p bufv) (hok : okPt q = true) (hd : 0 ≤ s.drop) (hl : s.out.length ≤ 100000000) (ha : s.add.size + q.t.size ≤ 100000000) (hdn : q.k = 3 → s.drop + q.n ≤ 9223372036854775807)
    (hsum : q.k = 1 → ∀ r x, settleP s = r ++ [x] → x.k = 1 → 0 ≤ x.n ∧ x.n + q.n ≤ 9223372036854775807) :
    Calls Tryd.prog 56 #[.pointer (some ⟨wb, 0, none⟩), .agg #[.int .i64 q.k, .int .i64 q.n, .string q.t]] w fun e w' => e = .returned (.tuple #[]) ∧ ∃ outv' p' bufv', Wt base wb w' (layP s q) outv' p' bufv' ∧ Fr base [107, 61, 5] w w' := by
  have HW : Hid (Wt base wb w s outv p bufv) := W
  have hw0 : Hid (Below w.heap.size w (w.alloc (.cells #[.int .i64 q.k, .int .i64 q.n, .string q.t] 61))) := (Below.refl _ _).alloc (Nat.le_refl _) _
  have hwl := W.blk.lt
  rcases ok_cases hok with ⟨h13, hn, hts⟩ | ⟨h2, hn, hts⟩
  · rcases h13 with h1 | h3
    · have HL : Hid (layP s q = keepP s q.n) := by show _ = _; unfold layP; rw [if_pos h1]
      rw [HL.out]
      have HK : Hid (∀ wx, Wt base wb wx s outv p bufv → Calls Tryd.prog 63 #[.pointer (some ⟨wb, 0, none⟩), .int .i64 q.n] wx fun e w' => e = .returned (.tuple #[]) ∧ ∃ outv' p' bufv', Wt base wb w' (keepP s q.n) outv' p' bufv' ∧ Fr base [107, 61, 5] wx w') := fun wx Wx => keep_any base wb wx s outv p bufv q.n Wx hd hl (by omega) (hsum h1)
      have k1 : (q.k == 1) = true := by simp [h1]
      clear W hok h1 hts hsum hdn
      go_enter Tryd.func56, Tryd.ntmps56
      go_wp2_with (go_at_call 63; refine (HK.out _ (HW.out.here hw0.out)).mono ?_; rintro e w1 ⟨rfl, o1, p1, b1, W1, F1⟩; have HW1 : Hid (Wt base wb w1 (keepP s q.n) o1 p1 b1) := W1; have HF1 := F1; clear W1)
      go_end0
      exact ⟨rfl, o1, p1, b1, HW1.out, (Fr.here hw0.out).trans HF1⟩
    · have HL : Hid (layP s q = ⟨s.out, s.add, s.drop + q.n⟩) := by show _ = _; unfold layP; rw [if_neg (by omega), if_neg (by omega)]
      rw [HL.out]
      have k1 : (q.k == 1) = false := by simp [h3]
      have k2 : (q.k == 2) = false := by simp [h3]
      have k3 : (q.k == 3) = true := by simp [h3]
      have hb := hdn h3
      have d3 : ∀ o, (w.alloc o).cell? ⟨wb, 3, none⟩ = some (.int .i64 s.drop) := fun o => (W.blk.alloc o).cell 3 rfl
      have f3 : ∀ o, (w.alloc o).frozen? ⟨wb, 3, none⟩ = false := fun o => (W.blk.alloc o).free 3
      clear W hok h3 hts hsum hdn
      go_enter Tryd.func56, Tryd.ntmps56
      go_wp2
      go_region
      go_wp2
      go_end0
      obtain ⟨D2, F2⟩ := HW.out.setDrop (s.drop + q.n)
      have hb := ((Below.refl _ (w.setCell ⟨wb, 3, none⟩ (.int .i64 (s.drop + q.n)))).alloc (Nat.le_refl _) (.cells #[.int .i64 q.k, .int .i64 q.n, .string q.t] 61)).drew
      exact ⟨rfl, outv, p, bufv, D2.here hb, F2.trans (Fr.here hb)⟩
  · have HL : Hid (layP s q = ⟨s.out, s.add ++ q.t, s.drop⟩) := by show _ = _; unfold layP; rw [if_neg (by omega), if_pos h2]
    rw [HL.out]
    have k1 : (q.k == 1) = false := by simp [h2]
    have k2 : (q.k == 2) = true := by simp [h2]
    have HA : Hid (s.add.size + q.t.size ≤ 140737488355328) := by show _ ≤ _; omega
    clear W hok h2 hts hsum hdn hn
    go_enter Tryd.func56, Tryd.ntmps56
    go_wp2
    go_region_with (go_at_call 45; refine (wt_write (HW.out.here (w' := (w.alloc (.cells #[.int .i64 q.k, .int .i64 q.n, .string q.t] 61)).drew) hw0.out.drew) q.t HA.out).mono ?_; rintro e w1 ⟨rfl, p1, b1, W1, F1⟩)
    have HW1 : Hid (Wt base wb w1 ⟨s.out, s.add ++ q.t, s.drop⟩ outv p1 b1) := W1
    have HF1 : Hid (Fr base [107, 61, 5] w w1) := (Fr.here hw0.out.drew).trans F1
    clear W1 F1
    go_wp2
    go_end0
    exact ⟨rfl, outv, p1, b1, HW1.out, HF1.out⟩

set_option maxRecDepth 100000 in
set_option maxHeartbeats 1000000 in
theorem change_any (base wb : Nat) (w : World) (s : WS) (outv p bufv : Value) (W : Wt base wb w s outv p bufv) (hd : 0 ≤ s.drop) (hl : s.out.length ≤ 100000000) :
    Calls Tryd.prog 57 #[.pointer (some ⟨wb, 0, none⟩)] w fun e w' => ∃ v, e = .returned v ∧ w'.ownsRow base 61 3 v (settleP s).length (cellsOf (settleP s)) ∧ Fr base [107, 61, 5] w w' := by
  have HS : Hid (Calls Tryd.prog 65 #[.pointer (some ⟨wb, 0, none⟩)] w fun e w' => e = .returned (.tuple #[]) ∧ ∃ outv' p' bufv', Wt base wb w' ⟨settleP s, ⟨#[]⟩, 0⟩ outv' p' bufv' ∧ Fr base [107, 61, 5] w w') := settle_any base wb w s outv p bufv W hd hl
  clear W
  go_enter Tryd.func57, Tryd.ntmps57
  go_wp2_with (go_at_call 65; refine HS.out.mono ?_)
  rintro e w1 ⟨rfl, o1, p1, b1, W1, F1⟩
  have HO : Hid (w1.ownsRow base 61 3 o1 (settleP s).length (cellsOf (settleP s))) := W1.out
  have d0 : w1.cell? ⟨wb, 0, none⟩ = some o1 := W1.blk.cell 0 rfl
  have HF1 : Hid (Fr base [107, 61, 5] w w1) := F1
  clear W1 F1
  go_wp2
  go_ret
  exact ⟨o1, rfl, HO.out, HF1.out⟩
end Go.Proofs.YtdbepogafbagpaaDoor
