import Derived.Test.YtdbepogafbagpaaDoorSizeAll
namespace Go.Proofs.YtdbepogafbagpaaDoor
open Go.RowKit
set_option linter.unusedVariables false

/-- which error 'fit' tells -/
def fitErr (ps : List Pt) (len : Int) (f c : Addr) : Option Addr := if Good ps = false then some c else if From ps < 0 ∨ From ps ≠ len then some f else none
def fitVal (ps : List Pt) (len : Int) : Int := (refFit ps len).1

theorem Arg.lst {w : World} {ps : List Pt} {ao : Option Addr} {b off : Nat} (A : Arg w ps ao b off) (hg : Good ps = true) : Lst ps := ⟨hg, A.len, A.text, fun i => (A.num i).2⟩

set_option maxRecDepth 100000 in
set_option maxHeartbeats 2000000 in
theorem fit_any {N : Nat} {f c : Addr} (ps : List Pt) (ao : Option Addr) (b off cap : Nat) (len : Int) (w : World) (E : Env N f c w) (A : Arg w ps ao b off) (hl0 : -9223372036854775808 ≤ len) (hl1 : len ≤ 9223372036854775807) :
    Calls Tryd.prog 25 #[.slice ao ps.length cap, .int .i64 len] w fun e w' => ∃ v, e = .returned (.tuple #[.int .i64 (fitVal ps len), v]) ∧ ErrIs w' v (fitErr ps len f c) ∧ Below w.heap.size w w' := by
  have HE : Hid (Env N f c w) := E
  have HA : Hid (Arg w ps ao b off) := A
  cases hg : Good ps with
  | false =>
    have HV : Hid (fitVal ps len = 0) := by show _ = _; unfold fitVal refFit; rw [if_pos hg]
    have HR : Hid (fitErr ps len f c = some c) := by show _ = _; unfold fitErr; rw [if_pos hg]
    have HC : Hid (Calls Tryd.prog 36 #[.slice ao ps.length cap] w fun e w' => ∃ t' p', e = .returned (.iface t' p') ∧ ErrIs w' (.iface t' p') (some c) ∧ Below w.heap.size w w') := by
      refine (check_any ps ao b off cap w E A).mono ?_
      rw [hg]
      rintro e w1 ⟨v, rfl, ⟨d, hv⟩, hb⟩
      obtain ⟨t', p', rfl⟩ := hv.shape
      exact ⟨t', p', rfl, ⟨d, hv⟩, hb⟩
    clear E A hg
    rw [HV.out, HR.out]
    go_enter Tryd.func25, Tryd.ntmps25
    go_wp2_with (go_at_call 36; refine HC.out.mono ?_; rintro e w1 ⟨t', p', rfl, hv1, hb1⟩; have HV1 : Hid (ErrIs w1 (.iface t' p') (some c)) := hv1; clear hv1)
    go_ret2
    exact ⟨.iface 76 (.pointer (some ⟨w1.heap.size, 0, none⟩)), rfl, errIs_wrap HV1.out rfl _, hb1.alloc hb1.size _⟩
  | true =>
    have HC : Hid (Calls Tryd.prog 36 #[.slice ao ps.length cap] w fun e w' => e = .returned .nilIface ∧ Below w.heap.size w w') := by
      refine (check_any ps ao b off cap w E A).mono ?_
      rw [hg]
      rintro e w1 ⟨v, rfl, rfl, hb⟩
      exact ⟨rfl, hb⟩
    have HL : Hid (Lst ps) := A.lst hg
    cases hf : fromTo ps ps.length with
    | none =>
      have hF : From ps = -1 := by unfold From; rw [hf]; rfl
      have HV : Hid (fitVal ps len = 0) := by show _ = _; unfold fitVal refFit; rw [if_neg (by simp [hg]), if_pos (Or.inl (by omega))]
      have HR : Hid (fitErr ps len f c = some f) := by show _ = _; unfold fitErr; rw [if_neg (by simp [hg]), if_pos (Or.inl (by omega))]
      have HS : Hid (∀ w1, Below w.heap.size w w1 → Calls Tryd.prog 37 #[.slice ao ps.length cap] w1 fun e w' => ∃ t' p', e = .returned (.tuple #[.int .i64 0, .int .i64 0, .iface t' p']) ∧ ErrIs w' (.iface t' p') (some f) ∧ Below w1.heap.size w1 w') := fun w1 hb1 => by
        refine (size_any ps ao b off cap w1 (E.here hb1) HL.out A.ao (A.cells.below hb1 A.lt) (fun h => Nat.lt_of_lt_of_le (A.lt h) hb1.size)).mono ?_
        rintro e w2 ⟨o, m, v, rfl, h | ⟨_, rfl, rfl, ⟨d, hv⟩⟩, hb⟩
        · rw [hf] at h; simp at h
        · obtain ⟨t', p', rfl⟩ := hv.shape
          exact ⟨t', p', rfl, ⟨d, hv⟩, hb⟩
      clear E A hg hf hF
      rw [HV.out, HR.out]
      go_enter Tryd.func25, Tryd.ntmps25
      go_wp2_with (first | (go_at_call 36; refine HC.out.mono ?_; rintro e w1 ⟨rfl, hb1⟩) | (go_at_call 37; refine (HS.out _ hb1).mono ?_; rintro e w2 ⟨t', p', rfl, hv2, hb2⟩; have HV2 : Hid (ErrIs w2 (.iface t' p') (some f)) := hv2; clear hv2))
      go_ret2
      exact ⟨.iface 76 (.pointer (some ⟨w2.heap.size, 0, none⟩)), rfl, errIs_wrap HV2.out rfl _, (hb1.trans (hb2.mono hb1.size)).alloc (Nat.le_trans hb1.size hb2.size) _⟩
    | some s =>
      have hF : From ps = s := by unfold From; rw [hf]; rfl
      have hsb := made_bd (ps := ps) (fun i => by
          by_cases hi : i < ps.length
          · exact ⟨ok_n (good_nth hg i hi), (A.num i).2⟩
          · simp [nth, List.getD, List.getElem?_eq_none (by omega : ps.length ≤ i)]) _ _ hf
      have htx := A.text
      have HS : Hid (∀ w1, Below w.heap.size w w1 → Calls Tryd.prog 37 #[.slice ao ps.length cap] w1 fun e w' => e = .returned (.tuple #[.int .i64 s, .int .i64 (madeTo ps ps.length), .nilIface]) ∧ Below w1.heap.size w1 w') := fun w1 hb1 => by
        refine (size_any ps ao b off cap w1 (E.here hb1) HL.out A.ao (A.cells.below hb1 A.lt) (fun h => Nat.lt_of_lt_of_le (A.lt h) hb1.size)).mono ?_
        rintro e w2 ⟨o, m, v, rfl, ⟨h, rfl, rfl⟩ | ⟨h, _⟩, hb⟩
        · rw [hf] at h; simp at h; subst h; exact ⟨rfl, hb⟩
        · rw [hf] at h; simp at h
      by_cases hne : s = len
      · have HV : Hid (fitVal ps len = madeTo ps ps.length) := by show _ = _; unfold fitVal refFit; rw [if_neg (by simp [hg]), if_neg (by rw [hF]; omega)]
        have HR : Hid (fitErr ps len f c = none) := by show _ = _; unfold fitErr; rw [if_neg (by simp [hg]), if_neg (by rw [hF]; omega)]
        rw [HV.out, HR.out]
        subst hne
        clear E A hg hf hF
        go_enter Tryd.func25, Tryd.ntmps25
        go_wp2_with (first | (go_at_call 36; refine HC.out.mono ?_; rintro e w1 ⟨rfl, hb1⟩) | (go_at_call 37; refine (HS.out _ hb1).mono ?_; rintro e w2 ⟨rfl, hb2⟩))
        go_ret2
        exact ⟨.nilIface, rfl, rfl, hb1.trans (hb2.mono hb1.size)⟩
      · have HV : Hid (fitVal ps len = 0) := by show _ = _; unfold fitVal refFit; rw [if_neg (by simp [hg]), if_pos (Or.inr (by rw [hF]; omega))]
        have HR : Hid (fitErr ps len f c = some f) := by show _ = _; unfold fitErr; rw [if_neg (by simp [hg]), if_pos (Or.inr (by rw [hF]; omega))]
        rw [HV.out, HR.out]
        have hne' : (s != len) = true := by rw [bne_iff_ne]; exact hne
        have h6 := E.six
        have hle := E.le
        clear E A hg hf hF hne
        go_enter Tryd.func25, Tryd.ntmps25
        go_wp2_with (first | (go_at_call 36; refine HC.out.mono ?_; rintro e w1 ⟨rfl, hb1⟩) | (go_at_call 37; refine (HS.out _ hb1).mono ?_; rintro e w2 ⟨rfl, hb2⟩))
        have hbw : Below w.heap.size w w2 := hb1.trans (hb2.mono hb1.size)
        have HE2 : Hid (Env N f c w2) := HE.out.here hbw
        have g2 : w2.cell? ⟨0, 0, none⟩ = some (.iface 149 (.pointer (some f))) := HE2.out.gf
        have h02 : 0 < w2.heap.size := by have := hbw.size; omega
        have n2 := World.new_ne w2 _ g2
        go_region_held3 (fun w' => w'.cell? ⟨0, 0, none⟩ = some (.iface 149 (.pointer (some f))))
          (first | assumption | go_keep)
          (first
            | ((go_at_call_of 38 (Value.int IntKind.i64 s); refine (itoa_any (N := N) (f := f) (c := c) s w2.drew (by exact HE2.out.here (Below.refl _ _).drew) (by omega) (by omega)).mono ?_; rintro e w3 ⟨s1, rfl, hs1, hb3'⟩; have hb3 : Below w2.heap.size w2 w3 := (Below.refl _ _).drew.trans hb3'; obtain ⟨s2, hs2, hadd⟩ := addStr ⟨#[102, 105, 116, 32]⟩ s1 4 21 (by decide) hs1 (by omega); obtain ⟨s3, hs3, hadd3⟩ := addStr s2 ⟨#[32, 116, 111, 32]⟩ 25 4 hs2 (by decide) (by omega); have g3 : w3.cell? ⟨0, 0, none⟩ = some (.iface 149 (.pointer (some f))) := (hb3.cell (p := ⟨0, 0, none⟩) h02).trans g2; have n3 := World.new_ne w3 _ g3))
            | ((go_at_call_of 38 (Value.int IntKind.i64 len); refine (itoa_any (N := N) (f := f) (c := c) len w3 (by exact HE2.out.here hb3) hl0 hl1).mono ?_; rintro e w4 ⟨s4, rfl, hs4, hb4⟩; obtain ⟨s5, hs5, hadd5⟩ := addStr s3 s4 29 21 hs3 hs4 (by omega); have g4 : w4.cell? ⟨0, 0, none⟩ = some (.iface 149 (.pointer (some f))) := (hb4.cell (p := ⟨0, 0, none⟩) (Nat.lt_of_lt_of_le h02 hb3.size)).trans g3; have n4 := World.new_ne w4 _ g4)))
        go_wp2
        go_ret2
        refine ⟨.iface 76 (.pointer (some ⟨w4.heap.size, 0, none⟩)), rfl, errIs_new rfl _, ?_⟩
        exact (hbw.trans ((hb3.trans (hb4.mono hb3.size)).mono hbw.size)).alloc (by have := hbw.size; have := hb3.size; have := hb4.size; omega) _
end Go.Proofs.YtdbepogafbagpaaDoor
