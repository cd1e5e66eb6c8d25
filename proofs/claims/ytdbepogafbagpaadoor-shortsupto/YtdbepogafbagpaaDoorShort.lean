import Derived.Test.YtdbepogafbagpaaDoorEachLay
import Derived.Test.YtdbepogafbagpaaDoorFitF
namespace Go.Proofs.YtdbepogafbagpaaDoor
open Go.RowKit
set_option linter.unusedVariables false

set_option maxRecDepth 100000 in
set_option maxHeartbeats 2000000 in
theorem shortened_any (ps : List Pt) (ao : Option Addr) (b off cap : Nat) (S : Int) (w : World) (L : Lst ps) (hf : fromTo ps ps.length = some S) (hao : 0 < ps.length → ao = some ⟨b, off, none⟩) (A : At w b off ps) (hb : 0 < ps.length → b < w.heap.size) :
    Calls Tryd.prog 40 #[.slice ao ps.length cap] w fun e w' => ∃ v, e = .returned v ∧ w'.ownsRow w.heap.size 61 3 v (shortL ps).length (cellsOf (shortL ps)) ∧ Below w.heap.size w w' := by
  have hw0 : Hid (Below w.heap.size w (w.alloc (.cells #[.slice none 0 0, .pointer none, .slice none 0 0, .int .i64 0] 107))) := (Below.refl _ _).alloc (Nat.le_refl _) _
  have HA : Hid (At w b off ps) := A
  have HAO : Hid (0 < ps.length → ao = some ⟨b, off, none⟩) := hao
  have HB : Hid (0 < ps.length → b < w.heap.size) := hb
  have HL : Hid (Lst ps) := L
  have HF : Hid (fromTo ps ps.length = some S) := hf
  have HO := layTo_ok L.good ps.length (Nat.le_refl _) S hf
  have HS : Hid (settleP (layTo ps ps.length) = shortL ps) := layTo_short L.good
  have hlen := L.len
  have H1 : Hid (0 ≤ (layTo ps ps.length).drop ∧ (layTo ps ps.length).out.length ≤ 100000000) := ⟨HO.drop, by have := HO.len; omega⟩
  clear A hao hb L hf HO
  go_enter Tryd.func40, Tryd.ntmps40
  go_wp2_with fail
  refine (read_any ao ps.length cap _).mono ?_
  rintro e w1 ⟨rfl, rfl⟩
  have hw1 : Below (w.alloc (.cells #[.slice none 0 0, .pointer none, .slice none 0 0, .int .i64 0] 107)).heap.size (w.alloc (.cells #[.slice none 0 0, .pointer none, .slice none 0 0, .int .i64 0] 107)) ((w.alloc (.cells #[.slice none 0 0, .pointer none, .slice none 0 0, .int .i64 0] 107)).alloc (.cells #[.slice ao ps.length cap, .int .i64 0, .int .i64 0] 110)) := (Below.refl _ _).alloc (Nat.le_refl _) _
  have HB1 : Hid (Below w.heap.size w ((w.alloc (.cells #[.slice none 0 0, .pointer none, .slice none 0 0, .int .i64 0] 107)).alloc (.cells #[.slice ao ps.length cap, .int .i64 0, .int .i64 0] 110))) := hw0.out.trans (hw1.mono (by simp))
  have HW1 : Hid (Wt w.heap.size w.heap.size ((w.alloc (.cells #[.slice none 0 0, .pointer none, .slice none 0 0, .int .i64 0] 107)).alloc (.cells #[.slice ao ps.length cap, .int .i64 0, .int .i64 0] 110)) ⟨[], ⟨#[]⟩, 0⟩ (.slice none 0 0) (.pointer none) (.slice none 0 0)) :=
    ⟨(Blk.new w _ 107).here hw1, Or.inl rfl, World.ownsRow_nil _ _ _ _, World.ownsRow_nil _ _ _ _, Nat.le_refl _, HB1.out.size⟩
  have HR1 : Hid (Rd ((w.alloc (.cells #[.slice none 0 0, .pointer none, .slice none 0 0, .int .i64 0] 107)).alloc (.cells #[.slice ao ps.length cap, .int .i64 0, .int .i64 0] 110)) (w.heap.size + 1) (.slice ao ps.length cap) 0 0) := Blk.new' _ 110 (by simp)
  clear hw1
  go_wp2_with fail
  refine (eachLay_any w.heap.size w.heap.size (w.heap.size + 1) b off cap ao ps HL.out S HF.out _ _ _ _ HW1.out HAO.out (HA.out.below HB1.out HB.out) HB.out (by omega) HR1.out).mono ?_
  rintro e w2 ⟨rfl, o2, p2, v2, W2, F2⟩
  have HW2 : Hid (Wt w.heap.size w.heap.size w2 (layTo ps ps.length) o2 p2 v2) := W2
  have HB2 : Hid (Below w.heap.size w w2) := HB1.out.trans (F2.below HB1.out.size)
  clear W2 F2
  go_wp2_with fail
  refine (change_any w.heap.size w.heap.size w2 (layTo ps ps.length) o2 p2 v2 HW2.out H1.out.1 H1.out.2).mono ?_
  rintro e w3 ⟨v3, rfl, hO3, F3⟩
  have fin : Hid (w3.ownsRow w.heap.size 61 3 v3 (shortL ps).length (cellsOf (shortL ps)) ∧ Below w.heap.size w w3) := by
    rw [HS.out] at hO3
    exact ⟨hO3, HB2.out.trans (F3.below HB2.out.size)⟩
  clear hO3 F3
  go_wp2
  go_ret
  exact ⟨v3, rfl, fin.out⟩

def shortErr (ps : List Pt) (f c : Addr) : Option Addr := if Good ps = false then some c else if From ps < 0 then some f else none
def shortCode (ps : List Pt) : Int := if Good ps = false then 1 else if From ps < 0 then 2 else 0
def shortOut (ps : List Pt) : List Pt := if shortCode ps = 0 then shortL ps else []
theorem short_num (ps : List Pt) (f c : Addr) (h : f ≠ c) : numOf f c (shortErr ps f c) = shortCode ps := by
  unfold shortErr shortCode
  split
  · simp [numOf]
  · split
    · simp [numOf, h]
    · simp [numOf]
theorem ownsRow_weak' {w : World} {base base' e size n : Nat} {v : Value} {xs : List Value} (h : w.ownsRow base e size v n xs) (hb : base' ≤ base) : w.ownsRow base' e size v n xs := by
  obtain ⟨h1, h2⟩ := h
  refine ⟨h1, ?_⟩
  rcases h2 with h2 | ⟨g, cap, cur, hv, hg, r⟩
  · exact Or.inl h2
  · exact Or.inr ⟨g, cap, cur, hv, by omega, r⟩
theorem shortErr_or (ps : List Pt) (f c : Addr) : shortErr ps f c = none ∨ shortErr ps f c = some f ∨ shortErr ps f c = some c := by
  unfold shortErr
  split
  · exact Or.inr (Or.inr rfl)
  · split
    · exact Or.inr (Or.inl rfl)
    · exact Or.inl rfl

set_option maxRecDepth 100000 in
set_option maxHeartbeats 2000000 in
theorem short_any {N : Nat} {f c : Addr} (ps : List Pt) (ao : Option Addr) (b off cap : Nat) (w : World) (E : Env N f c w) (A : Arg w ps ao b off) :
    Calls Tryd.prog 29 #[.slice ao ps.length cap] w fun e w' => ∃ r v, e = .returned (.tuple #[r, v]) ∧ w'.ownsRow w.heap.size 61 3 r (shortOut ps).length (cellsOf (shortOut ps)) ∧ ErrIs w' v (shortErr ps f c) ∧ Below w.heap.size w w' := by
  have HE : Hid (Env N f c w) := E
  cases hg : Good ps with
  | false =>
    have HO : Hid (shortOut ps = []) := by show _ = _; have hc : shortCode ps = 1 := by { unfold shortCode; rw [if_pos hg] }; unfold shortOut; rw [if_neg (by omega)]
    have HR : Hid (shortErr ps f c = some c) := by show _ = _; unfold shortErr; rw [if_pos hg]
    have HC : Hid (Calls Tryd.prog 36 #[.slice ao ps.length cap] w fun e w' => ∃ t' p', e = .returned (.iface t' p') ∧ ErrIs w' (.iface t' p') (some c) ∧ Below w.heap.size w w') := by
      refine (check_any ps ao b off cap w E A).mono ?_
      rw [hg]
      rintro e w1 ⟨v, rfl, ⟨d, hv⟩, hb⟩
      obtain ⟨t', p', rfl⟩ := hv.shape
      exact ⟨t', p', rfl, ⟨d, hv⟩, hb⟩
    clear E A hg
    rw [HO.out, HR.out]
    go_enter Tryd.func29, Tryd.ntmps29
    go_wp2_with (go_at_call 36; refine HC.out.mono ?_; rintro e w1 ⟨t', p', rfl, hv1, hb1⟩; have HV1 : Hid (ErrIs w1 (.iface t' p') (some c)) := hv1; clear hv1)
    go_ret2
    exact ⟨.slice none 0 0, .iface 76 (.pointer (some ⟨w1.heap.size, 0, none⟩)), rfl, World.ownsRow_nil _ _ _ _, errIs_wrap HV1.out rfl _, hb1.alloc hb1.size _⟩
  | true =>
    have HC : Hid (Calls Tryd.prog 36 #[.slice ao ps.length cap] w fun e w' => e = .returned .nilIface ∧ Below w.heap.size w w') := by
      refine (check_any ps ao b off cap w E A).mono ?_
      rw [hg]
      rintro e w1 ⟨v, rfl, rfl, hb⟩
      exact ⟨rfl, hb⟩
    have HL : Hid (Lst ps) := A.lst hg
    have HAr : Hid (Arg w ps ao b off) := A
    cases hf : fromTo ps ps.length with
    | none =>
      have hF : From ps = -1 := by unfold From; rw [hf]; rfl
      have HO : Hid (shortOut ps = []) := by show _ = _; have hc : shortCode ps = 2 := by { unfold shortCode; rw [if_neg (by simp [hg]), if_pos (by omega)] }; unfold shortOut; rw [if_neg (by omega)]
      have HR : Hid (shortErr ps f c = some f) := by show _ = _; unfold shortErr; rw [if_neg (by simp [hg]), if_pos (by omega)]
      have HS : Hid (∀ w1, Below w.heap.size w w1 → Calls Tryd.prog 37 #[.slice ao ps.length cap] w1 fun e w' => ∃ t' p', e = .returned (.tuple #[.int .i64 0, .int .i64 0, .iface t' p']) ∧ ErrIs w' (.iface t' p') (some f) ∧ Below w1.heap.size w1 w') := fun w1 hb1 => by
        refine (size_any ps ao b off cap w1 (E.here hb1) HL.out A.ao (A.cells.below hb1 A.lt) (fun h => Nat.lt_of_lt_of_le (A.lt h) hb1.size)).mono ?_
        rintro e w2 ⟨o, m, v, rfl, h | ⟨_, rfl, rfl, ⟨d, hv⟩⟩, hb⟩
        · rw [hf] at h; simp at h
        · obtain ⟨t', p', rfl⟩ := hv.shape
          exact ⟨t', p', rfl, ⟨d, hv⟩, hb⟩
      clear E A hg hf hF
      rw [HO.out, HR.out]
      go_enter Tryd.func29, Tryd.ntmps29
      go_wp2_with (first | (go_at_call 36; refine HC.out.mono ?_; rintro e w1 ⟨rfl, hb1⟩) | (go_at_call 37; refine (HS.out _ hb1).mono ?_; rintro e w2 ⟨t', p', rfl, hv2, hb2⟩; have HV2 : Hid (ErrIs w2 (.iface t' p') (some f)) := hv2; clear hv2))
      go_ret2
      exact ⟨.slice none 0 0, .iface 76 (.pointer (some ⟨w2.heap.size, 0, none⟩)), rfl, World.ownsRow_nil _ _ _ _, errIs_wrap HV2.out rfl _, (hb1.trans (hb2.mono hb1.size)).alloc (Nat.le_trans hb1.size hb2.size) _⟩
    | some s =>
      have hF : From ps = s := by unfold From; rw [hf]; rfl
      have hsb := made_bd (ps := ps) (fun i => by
          by_cases hi : i < ps.length
          · exact ⟨ok_n (good_nth hg i hi), (A.num i).2⟩
          · simp [nth, List.getD, List.getElem?_eq_none (by omega : ps.length ≤ i)]) _ _ hf
      have HO : Hid (shortOut ps = shortL ps) := by show _ = _; have hc : shortCode ps = 0 := by { unfold shortCode; rw [if_neg (by simp [hg]), if_neg (by omega)] }; unfold shortOut; rw [if_pos hc]
      have HR : Hid (shortErr ps f c = none) := by show _ = _; unfold shortErr; rw [if_neg (by simp [hg]), if_neg (by omega)]
      have HF : Hid (fromTo ps ps.length = some s) := hf
      have HS : Hid (∀ w1, Below w.heap.size w w1 → Calls Tryd.prog 37 #[.slice ao ps.length cap] w1 fun e w' => e = .returned (.tuple #[.int .i64 s, .int .i64 (madeTo ps ps.length), .nilIface]) ∧ Below w1.heap.size w1 w') := fun w1 hb1 => by
        refine (size_any ps ao b off cap w1 (E.here hb1) HL.out A.ao (A.cells.below hb1 A.lt) (fun h => Nat.lt_of_lt_of_le (A.lt h) hb1.size)).mono ?_
        rintro e w2 ⟨o, m, v, rfl, ⟨h, rfl, rfl⟩ | ⟨h, _⟩, hb⟩
        · rw [hf] at h; simp at h; subst h; exact ⟨rfl, hb⟩
        · rw [hf] at h; simp at h
      clear E A hg hf hF hsb
      rw [HO.out, HR.out]
      go_enter Tryd.func29, Tryd.ntmps29
      go_wp2_with (first | (go_at_call 36; refine HC.out.mono ?_; rintro e w1 ⟨rfl, hb1⟩) | (go_at_call 37; refine (HS.out _ hb1).mono ?_; rintro e w2 ⟨rfl, hb2⟩; have hbw : Below w.heap.size w w2 := hb1.trans (hb2.mono hb1.size)) | (go_at_call 40; refine (shortened_any ps ao b off cap s w2 HL.out HF.out HAr.out.ao (HAr.out.cells.below hbw HAr.out.lt) (fun h => Nat.lt_of_lt_of_le (HAr.out.lt h) hbw.size)).mono ?_; rintro e w3 ⟨v3, rfl, hO3, hb3⟩; have HO3 : Hid (w3.ownsRow w2.heap.size 61 3 v3 (shortL ps).length (cellsOf (shortL ps))) := hO3; clear hO3))
      go_ret2
      exact ⟨v3, .nilIface, rfl, ownsRow_weak' HO3.out hbw.size, rfl, hbw.trans (hb3.mono hbw.size)⟩

set_option maxRecDepth 100000 in
set_option maxHeartbeats 2000000 in
theorem shortF_any {N : Nat} {f c : Addr} (ps : List Pt) (ao : Option Addr) (b off cap : Nat) (w : World) (E : Env N f c w) (A : Arg w ps ao b off) :
    Calls Tryd.prog 14 #[.slice ao ps.length cap] w fun e w' => ∃ r, e = .returned (.tuple #[r, .int .i64 (shortCode ps)]) ∧ w'.ownsRow w.heap.size 61 3 r (shortOut ps).length (cellsOf (shortOut ps)) ∧ Below w.heap.size w w' := by
  have HF : Hid (Calls Tryd.prog 29 #[.slice ao ps.length cap] w fun e w' => ∃ r v, e = .returned (.tuple #[r, v]) ∧ w'.ownsRow w.heap.size 61 3 r (shortOut ps).length (cellsOf (shortOut ps)) ∧ ErrIs w' v (shortErr ps f c) ∧ Below w.heap.size w w') := short_any ps ao b off cap w E A
  have HN : Hid (numOf f c (shortErr ps f c) = shortCode ps) := short_num ps f c E.ne
  have HE : Hid (Env N f c w) := E
  clear E A
  rw [← HN.out]
  go_enter Tryd.func14, Tryd.ntmps14
  go_wp2_with (first | (go_at_call 29; refine HF.out.mono ?_; rintro e w1 ⟨r, v, rfl, hO, hv, hb1⟩; have HV : Hid (ErrIs w1 v (shortErr ps f c)) := hv; have HO : Hid (w1.ownsRow w.heap.size 61 3 r (shortOut ps).length (cellsOf (shortOut ps))) := hO; clear hv hO) | (go_at_call 26; refine (number_any v (shortErr ps f c) w1 (HE.out.here hb1) (shortErr_or ps f c) HV.out).mono ?_; rintro e w2 ⟨rfl, hww⟩; obtain rfl := hww.symm))
  go_ret2
  exact ⟨r, rfl, HO.out, hb1⟩
end Go.Proofs.YtdbepogafbagpaaDoor
