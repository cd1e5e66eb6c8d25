import Derived.Test.YtdbepogafbagpaaDoorDo4
namespace Go.Proofs.YtdbepogafbagpaaDoor
open Go.RowKit
set_option linter.unusedVariables false

def doOut (text : ByteArray) (ps : List Pt) : ByteArray := if (refFit ps text.size).2 = 0 then (doTo text ps ps.length).1 else ⟨#[]⟩
theorem doStr_out (text : ByteArray) (ps : List Pt) (f c : Addr) : doStr text ps f c = doOut text ps := by
  unfold doStr doOut fitErr refFit
  by_cases hg : Good ps = false
  · simp [hg]
  · by_cases hF : From ps < 0 ∨ From ps ≠ (text.size : Int)
    · rw [if_neg hg, if_pos hF, if_neg hg, if_pos hF]; simp
    · rw [if_neg hg, if_neg hF, if_neg hg, if_neg hF]; simp
theorem fits_ref {w : World} {ps : List Pt} {ao : Option Addr} {b off : Nat} (A : Arg w ps ao b off) (text : ByteArray) (ht : text.size ≤ 1048576) (h : (refFit ps text.size).2 = 0) : Fits ps text := by
  refine (fits_of A text ht ⟨0, 0, none⟩ ⟨1, 0, none⟩ ?_).1
  unfold refFit at h
  unfold fitErr
  split at h
  · simp at h
  · rename_i hg
    rw [if_neg hg]
    split at h
    · simp at h
    · rename_i hF; rw [if_neg hF]

theorem addS (a b : ByteArray) (h : a.size + b.size ≤ 100000000) : ∀ w, (Op.stringOp .add a b).run Tryd.prog w = .ok (.string (a ++ b)) w := fun w => run_string_add_sum (w := w) a b (by omega)

theorem ret_str {a b : ByteArray} {k : IntKind} {x y : Int} (h : a = b) (h2 : x = y) : Ending.returned (.tuple #[.string a, .int k x]) = .returned (.tuple #[.string b, .int k y]) := by rw [h, h2]

set_option maxRecDepth 100000 in
set_option maxHeartbeats 2000000 in
theorem refDo_any (text : ByteArray) (ps : List Pt) (ao : Option Addr) (b off cap : Nat) (w : World) (A : Arg w ps ao b off) (ht : text.size ≤ 1048576) :
    Calls Tryd.prog 19 #[.string text, .slice ao ps.length cap] w fun e w' => e = .returned (.tuple #[.string (doOut text ps), .int .i64 (refFit ps text.size).2]) ∧ Below w.heap.size w w' := by
  have HR : Hid (Calls Tryd.prog 12 #[.slice ao ps.length cap, .int .i64 text.size] w fun e w' => e = .returned (.tuple #[.int .i64 (refFit ps text.size).1, .int .i64 (refFit ps text.size).2]) ∧ Below w.heap.size w w') := refFit_any ps ao b off cap text.size w A
  by_cases hz : (refFit ps text.size).2 = 0
  · have F := fits_ref A text ht hz
    have HO : Hid (doOut text ps = (doTo text ps ps.length).1) := by show _ = _; unfold doOut; rw [if_pos hz]
    rw [hz] at HR ⊢
    rw [HO.out]
    have HF : Hid (Fits ps text) := F
    have hlen := A.len
    have htx := A.text
    rcases Nat.eq_zero_or_pos ps.length with hp | hp
    · have H0 : Hid ((doTo text ps ps.length).1 = ⟨#[]⟩) := by show _ = _; rw [hp]; rfl
      have hz' : ps.length ≤ 0 := by omega
      clear A F hz hp
      go_enter Tryd.func19, Tryd.ntmps19
      go_wp2_with (go_at_call 12; refine HR.out.mono ?_; rintro e w1 ⟨rfl, hb1⟩)
      refine wp_loop_rounds 1 ?_
      rw [rounds_succ]
      go_wp2
      go_ret2
      exact ⟨ret_str H0.out.symm rfl, hb1⟩
    obtain rfl := A.ao hp
    have hblt := A.lt hp
    have HC : Hid (At w b off ps) := A.cells
    clear A hz
    go_enter Tryd.func19, Tryd.ntmps19
    go_wp2_with (go_at_call 12; refine HR.out.mono ?_; rintro e w1 ⟨rfl, hb1⟩)
    go_loop [8, 9, 10] (fun s a i => ∃ k : Nat, k ≤ ps.length ∧ i = .int .i64 k ∧ a = .int .i64 (atTo ps k) ∧ s = .string (doTo text ps k).1) (fun _ _ i => ps.length - (intOf i).toNat)
    case atStart => exact ⟨0, Nat.zero_le _, rfl, rfl, rfl⟩
    case round =>
      obtain ⟨k, hk, rfl, rfl, rfl⟩ := hrel
      by_cases hlt : k < ps.length
      · have hok := good_nth F.lst.good k hlt
        have h1 := F.sizes k hk
        have h2 := textTo_le ps hk
        have h3 := F.at_le (k + 1) (by omega)
        have h4 := F.cur k hk
        have h5 : (doTo text ps k).2.size = text.size - atTo ps k := by rw [h4, ByteArray.size_extract]; omega
        have h6 := F.nn k
        have h7 := size_le_text ps k hlt
        have h8 := F.at_le k hk
        obtain ⟨c0, c1, c2⟩ := HC.out k hlt
        have d0 := (hb1.cell (p := ⟨b, off + k * 3, none⟩) hblt).trans c0
        have d1 := (hb1.cell (p := ⟨b, off + k * 3 + 1, none⟩) hblt).trans c1
        have d2 := (hb1.cell (p := ⟨b, off + k * 3 + 2, none⟩) hblt).trans c2
        have HS : Hid ((doTo text ps (k + 1)).1 = doneOf (nth ps k) (doTo text ps k).1 (doTo text ps k).2 (nth ps k).n.toNat) := rfl
        have HAt : Hid (atTo ps (k + 1) = atTo ps k + (nth ps k).n.toNat) := rfl
        rw [HAt.out] at h3
        obtain ⟨m, hm⟩ : ∃ m : Nat, (nth ps k).n = m := ⟨(nth ps k).n.toNat, by omega⟩
        rw [hm] at d1 HS HAt h3
        rw [Int.toNat_natCast] at HS HAt h3
        clear c0 c1 c2
        have HM : Hid ((nth ps k).n = m) := hm
        clear hm h6
        generalize hq : nth ps k = q at *
        clear hq
        rw [h4] at HS
        clear h4
        generalize (doTo text ps k).1 = dn at *
        generalize (doTo text ps k).2.size = cz at *
        generalize atTo ps k = at0 at *
        rcases ok_cases hok with ⟨h13, hn, hts⟩ | ⟨hk2, hn, hts⟩
        · have het : q.t = ⟨#[]⟩ := empty_of hts
          rcases h13 with hk1 | hk3
          · have g1 : (q.k == 1) = true := by simp [hk1]
            have hes : (text.extract at0 (at0 + m)).size = m := by rw [ByteArray.size_extract]; omega
            have a1 := addS dn (text.extract at0 (at0 + m)) (by omega)
            have a2 := addS (dn ++ text.extract at0 (at0 + m)) q.t (by rw [ByteArray.size_append]; omega)
            have sl : ∀ wx, (Instr.slice 9 (.string text) (some (.int .i64 at0)) (some (.int .i64 ((at0 : Int) + (m : Int)))) none).run Tryd.prog wx = .ok (.string (text.extract at0 (at0 + m))) wx := fun wx => by
              have := run_slice_string (P := Tryd.prog) (w := wx) 9 text .i64 .i64 at0 ((at0 : Int) + (m : Int)) Tryd.underlying9 (by omega) (by omega) (by omega)
              rw [this, Int.toNat_natCast, show ((at0 : Int) + (m : Int)).toNat = at0 + m by omega]
            have HE : Hid ((doTo text ps (k + 1)).1 = dn ++ text.extract at0 (at0 + m) ++ q.t) := by
              show _ = _
              rw [HS.out]
              unfold doneOf
              rw [if_pos hk1, het, append_empty, ByteArray.extract_extract]
              congr 1
              congr 1 <;> omega
            clear hok hk1 het hes HS hts h1 h7 h5
            go_wp2
            go_round
            case rel => exact ⟨k + 1, by omega, by go_num, by rw [HAt.out]; go_num, by rw [HE.out]⟩
            case measure => simp [intOf]; omega
          · have g1 : (q.k == 1) = false := by simp; omega
            have a2 := addS dn q.t (by omega)
            have HE : Hid ((doTo text ps (k + 1)).1 = dn ++ q.t) := by
              show _ = _
              rw [HS.out]
              unfold doneOf
              rw [if_neg (by omega)]
            clear hok HS hts h1 h7 h5 hk3 het
            go_wp2
            go_round
            case rel => exact ⟨k + 1, by omega, by go_num, by rw [HAt.out]; go_num, by rw [HE.out]⟩
            case measure => simp [intOf]; omega
        · have g1 : (q.k == 1) = false := by simp; omega
          have a2 := addS dn q.t (by omega)
          have HE : Hid ((doTo text ps (k + 1)).1 = dn ++ q.t) := by
            show _ = _
            rw [HS.out]
            unfold doneOf
            rw [if_neg (by omega)]
          clear hok HS hts h1 h7 h5 hk2 hn
          go_wp2
          go_round
          case rel => exact ⟨k + 1, by omega, by go_num, by rw [HAt.out]; go_num, by rw [HE.out]⟩
          case measure => simp [intOf]; omega
      · have HK : Hid ((doTo text ps k).1 = (doTo text ps ps.length).1) := by rw [show k = ps.length by omega]; trivial
        go_wp2
        go_ret2
        exact ⟨ret_str HK.out rfl, hb1⟩
  · have HO : Hid (doOut text ps = ⟨#[]⟩) := by show _ = _; unfold doOut; rw [if_neg hz]
    rw [HO.out]
    have hzb : ((refFit ps text.size).2 != 0) = true := by rw [bne_iff_ne]; exact hz
    clear hz A
    generalize (refFit ps text.size).2 = r2 at *
    generalize (refFit ps text.size).1 = r1 at *
    go_enter Tryd.func19, Tryd.ntmps19
    go_wp2_with (go_at_call 12; refine HR.out.mono ?_; rintro e w1 ⟨rfl, hb1⟩)
    go_ret2
    exact ⟨rfl, hb1⟩
end Go.Proofs.YtdbepogafbagpaaDoor
