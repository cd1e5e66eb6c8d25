import Derived.Test.YtdlolnahbgecjaaDoorWtr
import Derived.Test.YtdlolnahbgecjaaDoorFitsWalk
namespace Go.Proofs.YtdlolnahbgecjaaDoor
open Go.RowKit
set_option linter.unusedVariables false

theorem fits_of {w : World} {ps : List Pt} {ao : Option Addr} {b off : Nat} (A : Arg w ps ao b off) (text : ByteArray) (ht : text.size ≤ 1048576) (f c : Addr) (h : fitErr ps text.size f c = none) : Fits ps text ∧ fitVal ps text.size = madeTo ps ps.length := by
  unfold fitErr at h
  split at h
  · cases h
  rename_i hg
  split at h
  · cases h
  rename_i hF
  have hg' : Good ps = true := by simpa using hg
  refine ⟨⟨A.lst hg', ?_, ht⟩, ?_⟩
  · cases e : fromTo ps ps.length with
    | none => exfalso; apply hF; left; unfold From; rw [e]; decide
    | some s =>
      have : From ps = s := by unfold From; rw [e]; rfl
      rw [this] at hF
      congr 1; omega
  · unfold fitVal refFit; rw [if_neg hg, if_neg hF]

theorem IsB_of {base ob tb : Nat} {w : World} {done cur : ByteArray} {p v : Value} (D : Dn base ob tb w done cur p v) : Lib.IsBuilder 87 5 base ob (Lib.byteCells done.data.toList) w := by
  have h : ∀ p', p = p' → Lib.BuilderAt 87 5 base ob p' (Lib.byteCells done.data.toList) w := by
    rintro p' rfl
    refine ⟨D.bo, v, D.o, ?_, own_ne D.own D.o (by decide)⟩
    have := D.own
    rw [Lib.strCells_eq] at this
    rw [Lib.byteCells_length, Array.length_toList]
    exact this
  exact D.p.elim (fun e => Or.inl (h _ e)) (fun e => Or.inr (h _ e))

theorem ownsRow_weak {w : World} {base base' e size n : Nat} {v : Value} {xs : List Value} (h : w.ownsRow base e size v n xs) (hb : base' ≤ base) : w.ownsRow base' e size v n xs := by
  obtain ⟨h1, h2⟩ := h
  refine ⟨h1, ?_⟩
  rcases h2 with h2 | ⟨g, cap, cur, hv, hg, r⟩
  · exact Or.inl h2
  · exact Or.inr ⟨g, cap, cur, hv, by omega, r⟩
/-- what 'do' answers -/
def doStr (text : ByteArray) (ps : List Pt) (f c : Addr) : ByteArray := match fitErr ps text.size f c with
  | none => (doTo text ps ps.length).1
  | some _ => ⟨#[]⟩

set_option maxRecDepth 100000 in
set_option maxHeartbeats 2000000 in
theorem do_any {N : Nat} {f c : Addr} (text : ByteArray) (ps : List Pt) (ao : Option Addr) (b off cap : Nat) (w : World) (E : Env N f c w) (A : Arg w ps ao b off) (ht : text.size ≤ 1048576) :
    Calls Tryd.prog 31 #[.string text, .slice ao ps.length cap] w fun e w' => ∃ v, e = .returned (.tuple #[.string (doStr text ps f c), v]) ∧ ErrIs w' v (fitErr ps text.size f c) ∧ Below w.heap.size w w' := by
  have hw0 : Hid (Below w.heap.size w (w.alloc (.cells #[.string text] 9))) := (Below.refl _ _).alloc (Nat.le_refl _) _
  have HT : Hid (Blk (w.alloc (.cells #[.string text] 9)) w.heap.size #[.string text] 9) := Blk.new w _ 9
  have HF : Hid (Calls Tryd.prog 25 #[.slice ao ps.length cap, .int .i64 text.size] (w.alloc (.cells #[.string text] 9)) fun e w' => ∃ v, e = .returned (.tuple #[.int .i64 (fitVal ps text.size), v]) ∧ ErrIs w' v (fitErr ps text.size f c) ∧ Below (w.alloc (.cells #[.string text] 9)).heap.size (w.alloc (.cells #[.string text] 9)) w') := fit_any ps ao b off cap text.size _ (E.here hw0.out) (A.below hw0.out A.lt) (by omega) (by omega)
  have HA : Hid (Arg w ps ao b off) := A
  cases he : fitErr ps text.size f c with
  | some a =>
    have HS : Hid (doStr text ps f c = ⟨#[]⟩) := by show _ = _; unfold doStr; rw [he]
    rw [he] at HF
    rw [HS.out]
    have HF' : Hid (Calls Tryd.prog 25 #[.slice ao ps.length cap, .int .i64 text.size] (w.alloc (.cells #[.string text] 9)) fun e w' => ∃ t' p', e = .returned (.tuple #[.int .i64 (fitVal ps text.size), .iface t' p']) ∧ ErrIs w' (.iface t' p') (some a) ∧ Below (w.alloc (.cells #[.string text] 9)).heap.size (w.alloc (.cells #[.string text] 9)) w') := by
      refine HF.out.mono ?_
      rintro e w1 ⟨v, rfl, ⟨d, hv⟩, hb⟩
      obtain ⟨t', p', rfl⟩ := hv.shape
      exact ⟨t', p', rfl, ⟨d, hv⟩, hb⟩
    clear E A he HF
    go_enter Tryd.func31, Tryd.ntmps31
    go_wp2_with (go_at_call 25; refine HF'.out.mono ?_; rintro e w1 ⟨t', p', rfl, hv1, hb1⟩; have HV1 : Hid (ErrIs w1 (.iface t' p') (some a)) := hv1; clear hv1)
    go_ret2
    have hbw : Below w.heap.size w w1 := hw0.out.trans (hb1.mono (by simp))
    exact ⟨.iface 76 (.pointer (some ⟨w1.heap.size, 0, none⟩)), rfl, errIs_wrap HV1.out rfl _, hbw.alloc hbw.size _⟩
  | none =>
    have HS : Hid (doStr text ps f c = (doTo text ps ps.length).1) := by show _ = _; unfold doStr; rw [he]
    obtain ⟨F, hv⟩ := fits_of A text ht f c he
    rw [he] at HF
    rw [HS.out]
    have hsb := made_bd (ps := ps) (fun i => ⟨F.nn i, F.lst.num i⟩) _ _ F.fit
    have htx := F.lst.text
    obtain ⟨m, hm⟩ : ∃ m : Nat, madeTo ps ps.length = m := ⟨(madeTo ps ps.length).toNat, by omega⟩
    have hmb : m ≤ 281474976710656 := by omega
    have HF' : Hid (Calls Tryd.prog 25 #[.slice ao ps.length cap, .int .i64 text.size] (w.alloc (.cells #[.string text] 9)) fun e w' => e = .returned (.tuple #[.int .i64 m, .nilIface]) ∧ Below (w.alloc (.cells #[.string text] 9)).heap.size (w.alloc (.cells #[.string text] 9)) w') := by
      refine HF.out.mono ?_
      rintro e w1 ⟨v, rfl, rfl, hb⟩
      rw [hv, hm]
      exact ⟨rfl, hb⟩
    have HFt : Hid (Fits ps text) := F
    clear E A he HF F hv hm hsb
    go_enter Tryd.func31, Tryd.ntmps31
    go_wp2_with fail
    refine HF'.out.mono ?_
    rintro e w1 ⟨rfl, hb1⟩
    have HT1 : Hid (Blk w1 w.heap.size #[.string text] 9) := HT.out.here hb1
    have hbw1 : Below w.heap.size w w1 := hw0.out.trans (hb1.mono (by simp))
    have hs1 := hbw1.size
    have hs1' : w.heap.size < w1.heap.size := HT1.out.lt
    go_wp2_with fail
    refine (Tryd.Builder_Grow_fresh w1.heap.size w1.heap.size m (w1.alloc (.cells #[.pointer none, .slice none 0 0] 87)) (Nat.le_refl _) (Blk.new w1 _ 87) (by simp) hmb).mono ?_
    rintro e w2 ⟨rfl, ⟨_, v2, hO2, hown2, hne2⟩, hb2⟩
    have hbw2 : Below w1.heap.size w1 w2 := ((Below.refl _ _).alloc (Nat.le_refl _) _).trans hb2
    have HD2 : Hid (Dn w.heap.size w1.heap.size w.heap.size w2 ⟨#[]⟩ text (.pointer (some ⟨w1.heap.size, 0, none⟩)) v2) := ⟨hO2, HT1.out.below hbw2 hs1', Or.inr rfl, ownsRow_weak hown2 hs1, hs1, Nat.le_refl _, Nat.le_trans hs1 hbw2.size⟩
    have HB2 : Hid (Below w.heap.size w w2) := hbw1.trans (hbw2.mono hs1)
    clear hO2 hown2 hne2 hb2 hbw2 hb1 hbw1
    go_wp2_with fail
    refine (read_any ao ps.length cap w2).mono ?_
    rintro e w3 ⟨rfl, rfl⟩
    have hw3 : Below w2.heap.size w2 (w2.alloc (.cells #[.slice ao ps.length cap, .int .i64 0, .int .i64 0] 110)) := (Below.refl _ _).alloc (Nat.le_refl _) _
    have HB3 : Hid (Below w.heap.size w (w2.alloc (.cells #[.slice ao ps.length cap, .int .i64 0, .int .i64 0] 110))) := HB2.out.trans (hw3.mono HB2.out.size)
    have HD3 : Hid (Dn w.heap.size w1.heap.size w.heap.size (w2.alloc (.cells #[.slice ao ps.length cap, .int .i64 0, .int .i64 0] 110)) ⟨#[]⟩ text (.pointer (some ⟨w1.heap.size, 0, none⟩)) v2) := HD2.out.here hw3
    have HR3 : Hid (Rd (w2.alloc (.cells #[.slice ao ps.length cap, .int .i64 0, .int .i64 0] 110)) w2.heap.size (.slice ao ps.length cap) 0 0) := Blk.new w2 _ 110
    clear hw3
    go_wp2_with fail
    refine (eachDo_any w.heap.size w1.heap.size w.heap.size w2.heap.size b off cap ao ps text HFt.out _ _ v2 HD3.out HA.out.ao (HA.out.cells.below HB3.out HA.out.lt) HA.out.lt HB2.out.size HR3.out).mono ?_
    rintro e w4 ⟨rfl, p4, v4, D4, F4⟩
    have HB4 : Hid (Below w.heap.size w w4) := HB3.out.trans (F4.below HB3.out.size)
    have HI4 : Hid (Lib.IsBuilder 87 5 w.heap.size w1.heap.size (Lib.byteCells (doTo text ps ps.length).1.data.toList) w4) := IsB_of D4
    clear D4 F4
    go_wp2_with fail
    refine (Tryd.Builder_String_any w.heap.size w1.heap.size (doTo text ps ps.length).1.data.toList w4 HI4.out HB4.out.size).mono ?_
    rintro e w5 ⟨rfl, hb5⟩
    go_wp2
    go_ret2
    exact ⟨.nilIface, rfl, rfl, HB4.out.trans hb5⟩

set_option maxRecDepth 100000 in
set_option maxHeartbeats 2000000 in
theorem doF_any {N : Nat} {f c : Addr} (text : ByteArray) (ps : List Pt) (ao : Option Addr) (b off cap : Nat) (w : World) (E : Env N f c w) (A : Arg w ps ao b off) (ht : text.size ≤ 1048576) :
    Calls Tryd.prog 18 #[.string text, .slice ao ps.length cap] w fun e w' => e = .returned (.tuple #[.string (doStr text ps f c), .int .i64 (refFit ps text.size).2]) ∧ Below w.heap.size w w' := by
  have HF : Hid (Calls Tryd.prog 31 #[.string text, .slice ao ps.length cap] w fun e w' => ∃ v, e = .returned (.tuple #[.string (doStr text ps f c), v]) ∧ ErrIs w' v (fitErr ps text.size f c) ∧ Below w.heap.size w w') := do_any text ps ao b off cap w E A ht
  have HN : Hid (numOf f c (fitErr ps text.size f c) = (refFit ps text.size).2) := fit_num ps text.size f c E.ne
  have HE : Hid (Env N f c w) := E
  clear E A
  rw [← HN.out]
  go_enter Tryd.func18, Tryd.ntmps18
  go_wp2_with (first | (go_at_call 31; refine HF.out.mono ?_; rintro e w1 ⟨v, rfl, hv, hb1⟩; have HV : Hid (ErrIs w1 v (fitErr ps text.size f c)) := hv; clear hv) | (go_at_call 26; refine (number_any v (fitErr ps text.size f c) w1 (HE.out.here hb1) (fitErr_or ps text.size f c) HV.out).mono ?_; rintro e w2 ⟨rfl, rfl⟩))
  go_ret2
  exact ⟨rfl, hb1⟩
end Go.Proofs.YtdlolnahbgecjaaDoor
namespace Go.Proofs.YtdlolnahbgecjaaDoor
open Go.RowKit
set_option linter.unusedVariables false

def doOut (text : ByteArray) (ps : List Pt) : ByteArray := if (refFit ps text.size).2 = 0 then (doTo text ps ps.length).1 else ⟨#[]⟩
theorem doStr_out (text : ByteArray) (ps : List Pt) (f c : Addr) : doStr text ps f c = doOut text ps := by
  unfold doStr doOut fitErr refFit
  by_cases hg : Good ps = false
  · simp [hg]
  · by_cases hF : From ps < 0 ∨ From ps ≠ (text.size : Int)
    · rw [if_neg hg, if_pos hF, if_neg hg, if_pos hF]; simp
    · rw [if_neg hg, if_neg hF, if_neg hg, if_neg hF]; simp
theorem fits_ref {w : World} {ps : List Pt} {ao : Option Addr} {b off : Nat} (A : Arg w ps ao b off) (text : ByteArray) (ht : text.size ≤ 1048576) (h : (refFit ps text.size).2 = 0) : Fits ps text := by
  refine (fits_of A text ht ⟨0, 0, none⟩ ⟨1, 0, none⟩ ?_).1
  unfold refFit at h
  unfold fitErr
  split at h
  · simp at h
  · rename_i hg
    rw [if_neg hg]
    split at h
    · simp at h
    · rename_i hF; rw [if_neg hF]

theorem addS (a b : ByteArray) (h : a.size + b.size ≤ 100000000) : ∀ w, (Op.stringOp .add a b).run Tryd.prog w = .ok (.string (a ++ b)) w := fun w => run_string_add_sum (w := w) a b (by omega)

theorem ret_str {a b : ByteArray} {k : IntKind} {x y : Int} (h : a = b) (h2 : x = y) : Ending.returned (.tuple #[.string a, .int k x]) = .returned (.tuple #[.string b, .int k y]) := by rw [h, h2]

set_option maxRecDepth 100000 in
set_option maxHeartbeats 2000000 in
theorem refDo_any (text : ByteArray) (ps : List Pt) (ao : Option Addr) (b off cap : Nat) (w : World) (A : Arg w ps ao b off) (ht : text.size ≤ 1048576) :
    Calls Tryd.prog 19 #[.string text, .slice ao ps.length cap] w fun e w' => e = .returned (.tuple #[.string (doOut text ps), .int .i64 (refFit ps text.size).2]) ∧ Below w.heap.size w w' := by
  have HR : Hid (Calls Tryd.prog 12 #[.slice ao ps.length cap, .int .i64 text.size] w fun e w' => e = .returned (.tuple #[.int .i64 (refFit ps text.size).1, .int .i64 (refFit ps text.size).2]) ∧ Below w.heap.size w w') := refFit_any ps ao b off cap text.size w A
  by_cases hz : (refFit ps text.size).2 = 0
  · have F := fits_ref A text ht hz
    have HO : Hid (doOut text ps = (doTo text ps ps.length).1) := by show _ = _; unfold doOut; rw [if_pos hz]
    rw [hz] at HR ⊢
    rw [HO.out]
    have HF : Hid (Fits ps text) := F
    have hlen := A.len
    have htx := A.text
    rcases Nat.eq_zero_or_pos ps.length with hp | hp
    · have H0 : Hid ((doTo text ps ps.length).1 = ⟨#[]⟩) := by show _ = _; rw [hp]; rfl
      have hz' : ps.length ≤ 0 := by omega
      clear A F hz hp
      go_enter Tryd.func19, Tryd.ntmps19
      go_wp2_with (go_at_call 12; refine HR.out.mono ?_; rintro e w1 ⟨rfl, hb1⟩)
      refine wp_loop_rounds 1 ?_
      rw [rounds_succ]
      go_wp2
      go_ret2
      exact ⟨ret_str H0.out.symm rfl, hb1⟩
    obtain rfl := A.ao hp
    have hblt := A.lt hp
    have HC : Hid (At w b off ps) := A.cells
    clear A hz
    go_enter Tryd.func19, Tryd.ntmps19
    go_wp2_with (go_at_call 12; refine HR.out.mono ?_; rintro e w1 ⟨rfl, hb1⟩)
    go_loop [8, 9, 10] (fun s a i => ∃ k : Nat, k ≤ ps.length ∧ i = .int .i64 k ∧ a = .int .i64 (atTo ps k) ∧ s = .string (doTo text ps k).1) (fun _ _ i => ps.length - (intOf i).toNat)
    case atStart => exact ⟨0, Nat.zero_le _, rfl, rfl, rfl⟩
    case round =>
      obtain ⟨k, hk, rfl, rfl, rfl⟩ := hrel
      by_cases hlt : k < ps.length
      · have hok := good_nth F.lst.good k hlt
        have h1 := F.sizes k hk
        have h2 := textTo_le ps hk
        have h3 := F.at_le (k + 1) (by omega)
        have h4 := F.cur k hk
        have h5 : (doTo text ps k).2.size = text.size - atTo ps k := by rw [h4, ByteArray.size_extract]; omega
        have h6 := F.nn k
        have h7 := size_le_text ps k hlt
        have h8 := F.at_le k hk
        obtain ⟨c0, c1, c2⟩ := HC.out k hlt
        have d0 := (hb1.cell (p := ⟨b, off + k * 3, none⟩) hblt).trans c0
        have d1 := (hb1.cell (p := ⟨b, off + k * 3 + 1, none⟩) hblt).trans c1
        have d2 := (hb1.cell (p := ⟨b, off + k * 3 + 2, none⟩) hblt).trans c2
        have HS : Hid ((doTo text ps (k + 1)).1 = doneOf (nth ps k) (doTo text ps k).1 (doTo text ps k).2 (nth ps k).n.toNat) := rfl
        have HAt : Hid (atTo ps (k + 1) = atTo ps k + (nth ps k).n.toNat) := rfl
        rw [HAt.out] at h3
        obtain ⟨m, hm⟩ : ∃ m : Nat, (nth ps k).n = m := ⟨(nth ps k).n.toNat, by omega⟩
        rw [hm] at d1 HS HAt h3
        rw [Int.toNat_natCast] at HS HAt h3
        clear c0 c1 c2
        have HM : Hid ((nth ps k).n = m) := hm
        clear hm h6
        generalize hq : nth ps k = q at *
        clear hq
        rw [h4] at HS
        clear h4
        generalize (doTo text ps k).1 = dn at *
        generalize (doTo text ps k).2.size = cz at *
        generalize atTo ps k = at0 at *
        rcases ok_cases hok with ⟨h13, hn, hts⟩ | ⟨hk2, hn, hts⟩
        · have het : q.t = ⟨#[]⟩ := empty_of hts
          rcases h13 with hk1 | hk3
          · have g1 : (q.k == 1) = true := by simp [hk1]
            have hes : (text.extract at0 (at0 + m)).size = m := by rw [ByteArray.size_extract]; omega
            have a1 := addS dn (text.extract at0 (at0 + m)) (by omega)
            have a2 := addS (dn ++ text.extract at0 (at0 + m)) q.t (by rw [ByteArray.size_append]; omega)
            have sl : ∀ wx, (Instr.slice 9 (.string text) (some (.int .i64 at0)) (some (.int .i64 ((at0 : Int) + (m : Int)))) none).run Tryd.prog wx = .ok (.string (text.extract at0 (at0 + m))) wx := fun wx => by
              have := run_slice_string (P := Tryd.prog) (w := wx) 9 text .i64 .i64 at0 ((at0 : Int) + (m : Int)) Tryd.underlying9 (by omega) (by omega) (by omega)
              rw [this, Int.toNat_natCast, show ((at0 : Int) + (m : Int)).toNat = at0 + m by omega]
            have HE : Hid ((doTo text ps (k + 1)).1 = dn ++ text.extract at0 (at0 + m) ++ q.t) := by
              show _ = _
              rw [HS.out]
              unfold doneOf
              rw [if_pos hk1, het, append_empty, ByteArray.extract_extract]
              congr 1
              congr 1 <;> omega
            clear hok hk1 het hes HS hts h1 h7 h5
            go_wp2
            go_round
            case rel => exact ⟨k + 1, by omega, by go_num, by rw [HAt.out]; go_num, by rw [HE.out]⟩
            case measure => simp [intOf]; omega
          · have g1 : (q.k == 1) = false := by simp; omega
            have a2 := addS dn q.t (by omega)
            have HE : Hid ((doTo text ps (k + 1)).1 = dn ++ q.t) := by
              show _ = _
              rw [HS.out]
              unfold doneOf
              rw [if_neg (by omega)]
            clear hok HS hts h1 h7 h5 hk3 het
            go_wp2
            go_round
            case rel => exact ⟨k + 1, by omega, by go_num, by rw [HAt.out]; go_num, by rw [HE.out]⟩
            case measure => simp [intOf]; omega
        · have g1 : (q.k == 1) = false := by simp; omega
          have a2 := addS dn q.t (by omega)
          have HE : Hid ((doTo text ps (k + 1)).1 = dn ++ q.t) := by
            show _ = _
            rw [HS.out]
            unfold doneOf
            rw [if_neg (by omega)]
          clear hok HS hts h1 h7 h5 hk2 hn
          go_wp2
          go_round
          case rel => exact ⟨k + 1, by omega, by go_num, by rw [HAt.out]; go_num, by rw [HE.out]⟩
          case measure => simp [intOf]; omega
      · have HK : Hid ((doTo text ps k).1 = (doTo text ps ps.length).1) := by rw [show k = ps.length by omega]; trivial
        go_wp2
        go_ret2
        exact ⟨ret_str HK.out rfl, hb1⟩
  · have HO : Hid (doOut text ps = ⟨#[]⟩) := by show _ = _; unfold doOut; rw [if_neg hz]
    rw [HO.out]
    have hzb : ((refFit ps text.size).2 != 0) = true := by rw [bne_iff_ne]; exact hz
    clear hz A
    generalize (refFit ps text.size).2 = r2 at *
    generalize (refFit ps text.size).1 = r1 at *
    go_enter Tryd.func19, Tryd.ntmps19
    go_wp2_with (go_at_call 12; refine HR.out.mono ?_; rintro e w1 ⟨rfl, hb1⟩)
    go_ret2
    exact ⟨rfl, hb1⟩
end Go.Proofs.YtdlolnahbgecjaaDoor
namespace Go.Proofs.YtdlolnahbgecjaaDoor
open Go.RowKit
set_option linter.unusedVariables false

set_option maxRecDepth 100000 in
set_option maxHeartbeats 2000000 in
theorem does_walk {N : Nat} {f c : Addr} (text : ByteArray) (ps : List Pt) (ao : Option Addr) (b off cap : Nat) (w : World) (E : Env N f c w) (A : Arg w ps ao b off) (ht : text.size ≤ 1048576) :
    Calls Tryd.prog 5 #[.string text, .slice ao ps.length cap] w fun e w' => e = .returned (.bool true) ∧ Below w.heap.size w w' := by
  have HE : Hid (Env N f c w) := E
  have HA : Hid (Arg w ps ao b off) := A
  have hc := refFit_code ps text.size
  have HF : Hid (∀ wx ao' g cap', Env N f c wx → Arg wx ps ao' g 0 → Calls Tryd.prog 18 #[.string text, .slice ao' ps.length cap'] wx fun e w' => e = .returned (.tuple #[.string (doOut text ps), .int .i64 (refFit ps text.size).2]) ∧ Below wx.heap.size wx w') := fun wx ao' g cap' Ex Ax => by
    have := doF_any text ps ao' g 0 cap' wx Ex Ax ht
    rwa [doStr_out] at this
  have HR : Hid (∀ wx, Arg wx ps ao b off → Calls Tryd.prog 19 #[.string text, .slice ao ps.length cap] wx fun e w' => e = .returned (.tuple #[.string (doOut text ps), .int .i64 (refFit ps text.size).2]) ∧ Below wx.heap.size wx w') := fun wx Ax => refDo_any text ps ao b off cap wx Ax ht
  generalize doOut text ps = r1 at *
  generalize (refFit ps text.size).2 = r2 at *
  clear E A
  go_enter Tryd.func5, Tryd.ntmps5
  go_wp2_with (first | (go_at_call 11; refine (ours_arg ps ao b off cap w HA.out).mono ?_; rintro e w1 ⟨ao', g, cap', rfl, hA1, hg1, ho1, hb1⟩; have HA1 : Hid (Arg w1 ps ao' g 0) := hA1; clear hA1 hg1 ho1) | (go_at_call 18; refine (HF.out w1 ao' g cap' (HE.out.here hb1) HA1.out).mono ?_; rintro e w2 ⟨rfl, hb2⟩; have hbw : Below w.heap.size w w2 := hb1.trans (hb2.mono hb1.size)) | (go_at_call 19; refine (HR.out w2 (HA.out.below hbw HA.out.lt)).mono ?_; rintro e w3 ⟨rfl, hb3⟩) | (go_at_call 13; refine (num_any r2 w3 hc.1 hc.2).mono ?_; rintro e w4 ⟨rfl, rfl⟩))
  go_ret
  exact ⟨rfl, hbw.trans (hb3.mono hbw.size)⟩
end Go.Proofs.YtdlolnahbgecjaaDoor
