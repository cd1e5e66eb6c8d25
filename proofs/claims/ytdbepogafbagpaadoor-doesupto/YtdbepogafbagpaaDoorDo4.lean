import Derived.Test.YtdbepogafbagpaaDoorDo3
import Derived.Test.YtdbepogafbagpaaDoorFitF
namespace Go.Proofs.YtdbepogafbagpaaDoor
open Go.RowKit
set_option linter.unusedVariables false

theorem fits_of {w : World} {ps : List Pt} {ao : Option Addr} {b off : Nat} (A : Arg w ps ao b off) (text : ByteArray) (ht : text.size ≤ 1048576) (f c : Addr) (h : fitErr ps text.size f c = none) : Fits ps text ∧ fitVal ps text.size = madeTo ps ps.length := by
  unfold fitErr at h
  split at h
  · cases h
  rename_i hg
  split at h
  · cases h
  rename_i hF
  have hg' : Good ps = true := by simpa using hg
  refine ⟨⟨A.lst hg', ?_, ht⟩, ?_⟩
  · cases e : fromTo ps ps.length with
    | none => exfalso; apply hF; left; unfold From; rw [e]; decide
    | some s =>
      have : From ps = s := by unfold From; rw [e]; rfl
      rw [this] at hF
      congr 1; omega
  · unfold fitVal refFit; rw [if_neg hg, if_neg hF]

theorem IsB_of {base ob tb : Nat} {w : World} {done cur : ByteArray} {p v : Value} (D : Dn base ob tb w done cur p v) : Lib.IsBuilder 87 5 base ob (Lib.byteCells done.data.toList) w := by
  have h : ∀ p', p = p' → Lib.BuilderAt 87 5 base ob p' (Lib.byteCells done.data.toList) w := by
    rintro p' rfl
    refine ⟨D.bo, v, D.o, ?_, own_ne D.own D.o (by decide)⟩
    have := D.own
    rw [Lib.strCells_eq] at this
    rw [Lib.byteCells_length, Array.length_toList]
    exact this
  exact D.p.elim (fun e => Or.inl (h _ e)) (fun e => Or.inr (h _ e))

theorem ownsRow_weak {w : World} {base base' e size n : Nat} {v : Value} {xs : List Value} (h : w.ownsRow base e size v n xs) (hb : base' ≤ base) : w.ownsRow base' e size v n xs := by
  obtain ⟨h1, h2⟩ := h
  refine ⟨h1, ?_⟩
  rcases h2 with h2 | ⟨g, cap, cur, hv, hg, r⟩
  · exact Or.inl h2
  · exact Or.inr ⟨g, cap, cur, hv, by omega, r⟩
/-- what 'do' answers -/
def doStr (text : ByteArray) (ps : List Pt) (f c : Addr) : ByteArray := match fitErr ps text.size f c with
  | none => (doTo text ps ps.length).1
  | some _ => ⟨#[]⟩

set_option maxRecDepth 100000 in
set_option maxHeartbeats 2000000 in
theorem do_any {N : Nat} {f c : Addr} (text : ByteArray) (ps : List Pt) (ao : Option Addr) (b off cap : Nat) (w : World) (E : Env N f c w) (A : Arg w ps ao b off) (ht : text.size ≤ 1048576) :
    Calls Tryd.prog 31 #[.string text, .slice ao ps.length cap] w fun e w' => ∃ v, e = .returned (.tuple #[.string (doStr text ps f c), v]) ∧ ErrIs w' v (fitErr ps text.size f c) ∧ Below w.heap.size w w' := by
  have hw0 : Hid (Below w.heap.size w (w.alloc (.cells #[.string text] 9))) := (Below.refl _ _).alloc (Nat.le_refl _) _
  have HT : Hid (Blk (w.alloc (.cells #[.string text] 9)) w.heap.size #[.string text] 9) := Blk.new w _ 9
  have HF : Hid (Calls Tryd.prog 25 #[.slice ao ps.length cap, .int .i64 text.size] (w.alloc (.cells #[.string text] 9)) fun e w' => ∃ v, e = .returned (.tuple #[.int .i64 (fitVal ps text.size), v]) ∧ ErrIs w' v (fitErr ps text.size f c) ∧ Below (w.alloc (.cells #[.string text] 9)).heap.size (w.alloc (.cells #[.string text] 9)) w') := fit_any ps ao b off cap text.size _ (E.here hw0.out) (A.below hw0.out A.lt) (by omega) (by omega)
  have HA : Hid (Arg w ps ao b off) := A
  cases he : fitErr ps text.size f c with
  | some a =>
    have HS : Hid (doStr text ps f c = ⟨#[]⟩) := by show _ = _; unfold doStr; rw [he]
    rw [he] at HF
    rw [HS.out]
    have HF' : Hid (Calls Tryd.prog 25 #[.slice ao ps.length cap, .int .i64 text.size] (w.alloc (.cells #[.string text] 9)) fun e w' => ∃ t' p', e = .returned (.tuple #[.int .i64 (fitVal ps text.size), .iface t' p']) ∧ ErrIs w' (.iface t' p') (some a) ∧ Below (w.alloc (.cells #[.string text] 9)).heap.size (w.alloc (.cells #[.string text] 9)) w') := by
      refine HF.out.mono ?_
      rintro e w1 ⟨v, rfl, ⟨d, hv⟩, hb⟩
      obtain ⟨t', p', rfl⟩ := hv.shape
      exact ⟨t', p', rfl, ⟨d, hv⟩, hb⟩
    clear E A he HF
    go_enter Tryd.func31, Tryd.ntmps31
    go_wp2_with (go_at_call 25; refine HF'.out.mono ?_; rintro e w1 ⟨t', p', rfl, hv1, hb1⟩; have HV1 : Hid (ErrIs w1 (.iface t' p') (some a)) := hv1; clear hv1)
    go_ret2
    have hbw : Below w.heap.size w w1 := hw0.out.trans (hb1.mono (by simp))
    exact ⟨.iface 76 (.pointer (some ⟨w1.heap.size, 0, none⟩)), rfl, errIs_wrap HV1.out rfl _, hbw.alloc hbw.size _⟩
  | none =>
    have HS : Hid (doStr text ps f c = (doTo text ps ps.length).1) := by show _ = _; unfold doStr; rw [he]
    obtain ⟨F, hv⟩ := fits_of A text ht f c he
    rw [he] at HF
    rw [HS.out]
    have hsb := made_bd (ps := ps) (fun i => ⟨F.nn i, F.lst.num i⟩) _ _ F.fit
    have htx := F.lst.text
    obtain ⟨m, hm⟩ : ∃ m : Nat, madeTo ps ps.length = m := ⟨(madeTo ps ps.length).toNat, by omega⟩
    have hmb : m ≤ 281474976710656 := by omega
    have HF' : Hid (Calls Tryd.prog 25 #[.slice ao ps.length cap, .int .i64 text.size] (w.alloc (.cells #[.string text] 9)) fun e w' => e = .returned (.tuple #[.int .i64 m, .nilIface]) ∧ Below (w.alloc (.cells #[.string text] 9)).heap.size (w.alloc (.cells #[.string text] 9)) w') := by
      refine HF.out.mono ?_
      rintro e w1 ⟨v, rfl, rfl, hb⟩
      rw [hv, hm]
      exact ⟨rfl, hb⟩
    have HFt : Hid (Fits ps text) := F
    clear E A he HF F hv hm hsb
    go_enter Tryd.func31, Tryd.ntmps31
    go_wp2_with fail
    refine HF'.out.mono ?_
    rintro e w1 ⟨rfl, hb1⟩
    have HT1 : Hid (Blk w1 w.heap.size #[.string text] 9) := HT.out.here hb1
    have hbw1 : Below w.heap.size w w1 := hw0.out.trans (hb1.mono (by simp))
    have hs1 := hbw1.size
    have hs1' : w.heap.size < w1.heap.size := HT1.out.lt
    go_wp2_with fail
    refine (Tryd.Builder_Grow_fresh w1.heap.size w1.heap.size m (w1.alloc (.cells #[.pointer none, .slice none 0 0] 87)) (Nat.le_refl _) (Blk.new w1 _ 87) (by simp) hmb).mono ?_
    rintro e w2 ⟨rfl, ⟨_, v2, hO2, hown2, hne2⟩, hb2⟩
    have hbw2 : Below w1.heap.size w1 w2 := ((Below.refl _ _).alloc (Nat.le_refl _) _).trans hb2
    have HD2 : Hid (Dn w.heap.size w1.heap.size w.heap.size w2 ⟨#[]⟩ text (.pointer (some ⟨w1.heap.size, 0, none⟩)) v2) := ⟨hO2, HT1.out.below hbw2 hs1', Or.inr rfl, ownsRow_weak hown2 hs1, hs1, Nat.le_refl _, Nat.le_trans hs1 hbw2.size⟩
    have HB2 : Hid (Below w.heap.size w w2) := hbw1.trans (hbw2.mono hs1)
    clear hO2 hown2 hne2 hb2 hbw2 hb1 hbw1
    go_wp2_with fail
    refine (read_any ao ps.length cap w2).mono ?_
    rintro e w3 ⟨rfl, rfl⟩
    have hw3 : Below w2.heap.size w2 (w2.alloc (.cells #[.slice ao ps.length cap, .int .i64 0, .int .i64 0] 110)) := (Below.refl _ _).alloc (Nat.le_refl _) _
    have HB3 : Hid (Below w.heap.size w (w2.alloc (.cells #[.slice ao ps.length cap, .int .i64 0, .int .i64 0] 110))) := HB2.out.trans (hw3.mono HB2.out.size)
    have HD3 : Hid (Dn w.heap.size w1.heap.size w.heap.size (w2.alloc (.cells #[.slice ao ps.length cap, .int .i64 0, .int .i64 0] 110)) ⟨#[]⟩ text (.pointer (some ⟨w1.heap.size, 0, none⟩)) v2) := HD2.out.here hw3
    have HR3 : Hid (Rd (w2.alloc (.cells #[.slice ao ps.length cap, .int .i64 0, .int .i64 0] 110)) w2.heap.size (.slice ao ps.length cap) 0 0) := Blk.new w2 _ 110
    clear hw3
    go_wp2_with fail
    refine (eachDo_any w.heap.size w1.heap.size w.heap.size w2.heap.size b off cap ao ps text HFt.out _ _ v2 HD3.out HA.out.ao (HA.out.cells.below HB3.out HA.out.lt) HA.out.lt HB2.out.size HR3.out).mono ?_
    rintro e w4 ⟨rfl, p4, v4, D4, F4⟩
    have HB4 : Hid (Below w.heap.size w w4) := HB3.out.trans (F4.below HB3.out.size)
    have HI4 : Hid (Lib.IsBuilder 87 5 w.heap.size w1.heap.size (Lib.byteCells (doTo text ps ps.length).1.data.toList) w4) := IsB_of D4
    clear D4 F4
    go_wp2_with fail
    refine (Tryd.Builder_String_any w.heap.size w1.heap.size (doTo text ps ps.length).1.data.toList w4 HI4.out HB4.out.size).mono ?_
    rintro e w5 ⟨rfl, hb5⟩
    go_wp2
    go_ret2
    exact ⟨.nilIface, rfl, rfl, HB4.out.trans hb5⟩

set_option maxRecDepth 100000 in
set_option maxHeartbeats 2000000 in
theorem doF_any {N : Nat} {f c : Addr} (text : ByteArray) (ps : List Pt) (ao : Option Addr) (b off cap : Nat) (w : World) (E : Env N f c w) (A : Arg w ps ao b off) (ht : text.size ≤ 1048576) :
    Calls Tryd.prog 18 #[.string text, .slice ao ps.length cap] w fun e w' => e = .returned (.tuple #[.string (doStr text ps f c), .int .i64 (refFit ps text.size).2]) ∧ Below w.heap.size w w' := by
  have HF : Hid (Calls Tryd.prog 31 #[.string text, .slice ao ps.length cap] w fun e w' => ∃ v, e = .returned (.tuple #[.string (doStr text ps f c), v]) ∧ ErrIs w' v (fitErr ps text.size f c) ∧ Below w.heap.size w w') := do_any text ps ao b off cap w E A ht
  have HN : Hid (numOf f c (fitErr ps text.size f c) = (refFit ps text.size).2) := fit_num ps text.size f c E.ne
  have HE : Hid (Env N f c w) := E
  clear E A
  rw [← HN.out]
  go_enter Tryd.func18, Tryd.ntmps18
  go_wp2_with (first | (go_at_call 31; refine HF.out.mono ?_; rintro e w1 ⟨v, rfl, hv, hb1⟩; have HV : Hid (ErrIs w1 v (fitErr ps text.size f c)) := hv; clear hv) | (go_at_call 26; refine (number_any v (fitErr ps text.size f c) w1 (HE.out.here hb1) (fitErr_or ps text.size f c) HV.out).mono ?_; rintro e w2 ⟨rfl, rfl⟩))
  go_ret2
  exact ⟨rfl, hb1⟩
end Go.Proofs.YtdbepogafbagpaaDoor
