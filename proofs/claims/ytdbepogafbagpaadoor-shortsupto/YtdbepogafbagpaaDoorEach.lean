import Derived.Test.YtdbepogafbagpaaDoorSize2
namespace Go.Proofs.YtdbepogafbagpaaDoor
open Go.RowKit
set_option linter.unusedVariables false

theorem ok_pos {p : Pt} (h : okPt p = true) : (p.k == 0) = false ∧ (p.k != 0) = true := by
  rcases ok_cases h with ⟨h, _⟩ | ⟨h, _⟩ <;> simp <;> omega
theorem cut_full {p : Pt} (h : okPt p = true) (m : Nat) (hm : (m : Int) = psz p) : cut p 0 m = p := by
  unfold psz at hm
  rcases ok_cases h with ⟨h, h', h''⟩ | ⟨h, h', h''⟩
  · have e : (m : Int) = p.n := by omega
    unfold cut; rw [if_neg (by omega), e]
  · have e : m = p.t.size := by omega
    subst e
    have e2 : p.t.extract 0 (0 + p.t.size) = p.t := by rw [Nat.zero_add]; simp
    unfold cut; rw [if_pos h, e2]
theorem psz_ok {p : Pt} (h : okPt p = true) (hn : p.n ≤ 9223372036854775807) (ht : p.t.size ≤ 1048576) : 1 ≤ psz p ∧ psz p ≤ 9223372036854775807 := by
  unfold psz
  rcases ok_cases h with ⟨_, h', h''⟩ | ⟨_, h', h''⟩ <;> omega

/-- what is asked of the list that a reader goes over -/
structure Lst (ps : List Pt) : Prop where
  good : Good ps = true
  len : ps.length ≤ 1048576
  text : textTo ps ps.length ≤ 1048576
  num : ∀ i, (nth ps i).n ≤ 9223372036854775807

set_option maxRecDepth 100000 in
set_option maxHeartbeats 2000000 in
theorem eachSize_pos {N : Nat} {f c : Addr} (ob mb eb gb rb b off cap : Nat) (ps : List Pt) (L : Lst ps) (w : World) (ov mk : Int) (ev : Value) (E : Env N f c w) (S : SzB N ob mb eb gb w ov mk ev) (T : SzSt f ps 0 w ov mk ev) (hoN : N ≤ ob) (hmN : N ≤ mb) (hrN : N ≤ rb)
    (A : At w b off ps) (hb : b < w.heap.size) (hbo : b ≠ ob) (hbm : b ≠ mb) (hbe : b ≠ eb) (hbr : b ≠ rb) (R : Rd w rb (.slice (some ⟨b, off, none⟩) ps.length cap) 0 0) :
    Calls Tryd.prog 43 #[.pointer (some ⟨rb, 0, none⟩), .func (.func 52) #[] #[.pointer (some ⟨gb, 0, none⟩), .pointer (some ⟨mb, 0, none⟩), .pointer (some ⟨ob, 0, none⟩)]] w fun e w' => e = .returned (.tuple #[]) ∧ ∃ ov' mk' ev', SzB N ob mb eb gb w' ov' mk' ev' ∧ SzSt f ps ps.length w' ov' mk' ev' ∧ Wr (fun x => x = ob ∨ x = mb ∨ x = eb ∨ x = rb) w w' := by
  have HE : Hid (Env N f c w) := E
  have hlen := L.len
  have hSN : Hid (∀ x, x < N → ¬ (x = ob ∨ x = mb ∨ x = eb ∨ x = rb)) := fun x hx => by have := S.eN; omega
  have Hst : Hid (SzB N ob mb eb gb w ov mk ev ∧ SzSt f ps 0 w ov mk ev ∧ Rd w rb (.slice (some ⟨b, off, none⟩) ps.length cap) 0 0 ∧ At w b off ps) := ⟨S, T, R, A⟩
  clear E S T R A
  go_enter Tryd.func43, Tryd.ntmps43
  go_wp2
  go_loopg [4] ps.length (fun j u wr => ∃ k : Nat, k + j = ps.length ∧ ∃ ov' mk' ev', SzB N ob mb eb gb wr ov' mk' ev' ∧ SzSt f ps k wr ov' mk' ev' ∧ Rd wr rb (.slice (some ⟨b, off, none⟩) ps.length cap) k 0 ∧ At wr b off ps ∧ Wr (fun x => x = ob ∨ x = mb ∨ x = eb ∨ x = rb) w wr)
  case atStart => exact ⟨0, by omega, ov, mk, ev, Hst.out.1, Hst.out.2.1, Hst.out.2.2.1, Hst.out.2.2.2, Wr.refl _ _⟩
  case round =>
    obtain ⟨k, hk, ov', mk', ev', S, T, R, A, W⟩ := hrel
    have HS : Hid (SzB N ob mb eb gb wr ov' mk' ev') := S
    have HT : Hid (SzSt f ps k wr ov' mk' ev') := T
    have HR : Hid (Rd wr rb (.slice (some ⟨b, off, none⟩) ps.length cap) k 0) := R
    have HA : Hid (At wr b off ps) := A
    have HW : Hid (Wr (fun x => x = ob ∨ x = mb ∨ x = eb ∨ x = rb) w wr) := W
    have hbw : b < wr.heap.size := Nat.lt_of_lt_of_le hb W.size
    have HEr : Hid (Env N f c wr) := HE.out.wr W hSN.out
    have HK : Hid (k + gk = ps.length) := hk
    clear S T R A W hk
    by_cases hlt : k < ps.length
    · have hok := good_nth L.good k hlt
      have hts := size_le_text ps k hlt
      have htx := L.text
      have hz := psz_ok hok (L.num k) (by omega)
      obtain ⟨m, hm⟩ : ∃ m : Nat, (m : Int) = psz (nth ps k) := ⟨(psz (nth ps k)).toNat, by omega⟩
      have HC : Hid (cut (nth ps k) 0 m = nth ps k) := cut_full hok m hm
      have hkz := (ok_pos hok).2
      have HRest : Hid (∀ wx, At wx b off ps → b < wx.heap.size → Rd wx rb (.slice (some ⟨b, off, none⟩) ps.length cap) k 0 → Calls Tryd.prog 61 #[.pointer (some ⟨rb, 0, none⟩)] wx fun e w' => e = .returned (.agg #[.int .i64 (nth ps k).k, .int .i64 (nth ps k).n, .string (nth ps k).t]) ∧ Only rb wx w' ∧ Rd w' rb (.slice (some ⟨b, off, none⟩) ps.length cap) ((k : Int) + 1) 0) := fun wx Ax hbx Rx => by
        have := rest_any ps b off cap rb k 0 m wx Ax hbx hlt hlen Rx hbr hok (by simpa using hm) hz.2
        rwa [HC.out] at this
      have Hbd : Hid (∀ s, fromTo ps k = some s → madeTo ps k ≤ s + 1048576 ∧ madeTo ps k + (nth ps k).t.size ≤ 9223372036854775807) := fun s hs => by
        have hb1 := made_bd (ps := ps) (fun i => by
          by_cases hi : i < ps.length
          · exact ⟨ok_n (good_nth L.good i hi), L.num i⟩
          · simp [nth, List.getD, List.getElem?_eq_none (by omega : ps.length ≤ i)]) k s hs
        have h2 := textTo_le ps (show k ≤ ps.length by omega)
        omega
      have hnk := L.num k
      have HKind : Hid (∀ wx, At wx b off ps → b < wx.heap.size → Rd wx rb (.slice (some ⟨b, off, none⟩) ps.length cap) k 0 → Calls Tryd.prog 60 #[.pointer (some ⟨rb, 0, none⟩)] wx fun e w' => e = .returned (.int .i64 (nth ps k).k) ∧ Below wx.heap.size wx w') := fun wx Ax hbx Rx => kind_in ps b off cap rb k 0 wx Ax hbx hlt Rx
      have HClos : Hid (∀ wx, Env N f c wx → SzB N ob mb eb gb wx ov' mk' ev' → SzSt f ps k wx ov' mk' ev' → Calls Tryd.prog 52 #[.agg #[.int .i64 (nth ps k).k, .int .i64 (nth ps k).n, .string (nth ps k).t], .pointer (some ⟨gb, 0, none⟩), .pointer (some ⟨mb, 0, none⟩), .pointer (some ⟨ob, 0, none⟩)] wx fun e w' => e = .returned (.tuple #[]) ∧ ∃ ov' mk' ev', SzB N ob mb eb gb w' ov' mk' ev' ∧ SzSt f ps (k + 1) w' ov' mk' ev' ∧ Wr (fun x => x = ob ∨ x = mb ∨ x = eb) wx w') := fun wx Ex Sx Tx => size2_any ob mb eb gb ps k wx ov' mk' ev' Ex Sx Tx hoN hmN hok hnk Hbd.out
      clear hm hz hts htx hok Hbd HC hnk
      generalize nth ps k = q at *
      go_wp2_with fail
      refine (HKind.out wr HA.out hbw HR.out).mono ?_
      rintro e w1 ⟨rfl, hb1⟩
      have HA1 : Hid (At w1 b off ps) := HA.out.below hb1 (fun _ => hbw)
      have HR1 : Hid (Rd w1 rb (.slice (some ⟨b, off, none⟩) ps.length cap) k 0) := HR.out.below hb1 HR.out.lt
      have hbw1 : b < w1.heap.size := Nat.lt_of_lt_of_le hbw hb1.size
      go_wp2_with fail
      refine (HRest.out w1 HA1.out hbw1 HR1.out).mono ?_
      rintro e w2 ⟨rfl, ho, R2⟩
      have HR2 : Hid (Rd w2 rb (.slice (some ⟨b, off, none⟩) ps.length cap) ((k : Int) + 1) 0) := R2
      have HW2 : Hid (Wr (fun x => x = rb) wr w2) := (Wr.here hb1).trans (Wr.only ho rfl)
      clear R2 ho hb1
      have hneo : ob ≠ rb := HS.out.o.ne (show Blk wr rb _ 110 from HR.out) (by decide)
      have hnem : mb ≠ rb := HS.out.m.ne (show Blk wr rb _ 110 from HR.out) (by decide)
      have hnee : eb ≠ rb := HS.out.e.ne (show Blk wr rb _ 110 from HR.out) (by decide)
      have hneg : gb ≠ rb := HS.out.g.ne (show Blk wr rb _ 110 from HR.out) (by decide)
      have HS2 : Hid (SzB N ob mb eb gb w2 ov' mk' ev') := ⟨HS.out.o.wr HW2.out hneo, HS.out.m.wr HW2.out hnem, HS.out.e.wr HW2.out hnee, HS.out.g.wr HW2.out hneg, HS.out.om, HS.out.eN, HS.out.ov0, HS.out.ov1, HS.out.mk0, HS.out.mk1⟩
      have HT2 : Hid (SzSt f ps k w2 ov' mk' ev') := HT.out.elim Or.inl (fun h => Or.inr ⟨h.1.wr HW2.out (fun x cs hx => hx.ne (show Blk wr rb _ 110 from HR.out) (by decide)), h.2⟩)
      have HE2 : Hid (Env N f c w2) := HEr.out.wr HW2.out (fun x hx (h : x = rb) => by omega)
      have HA2 : Hid (At w2 b off ps) := HA.out.wr HW2.out (fun _ => hbw) hbr
      clear hneo hnem hnee hneg
      go_wp2_with fail
      refine (HClos.out w2 HE2.out HS2.out HT2.out).mono ?_
      rintro e w3 ⟨rfl, ov3, mk3, ev3, S3, T3, W3⟩
      have hbs : Hid (b < w2.heap.size) := Nat.lt_of_lt_of_le hbw HW2.out.size
      have fin : Hid (SzB N ob mb eb gb w3 ov3 mk3 ev3 ∧ SzSt f ps (k + 1) w3 ov3 mk3 ev3 ∧ Rd w3 rb (.slice (some ⟨b, off, none⟩) ps.length cap) ((k + 1 : Nat) : Int) 0 ∧ At w3 b off ps ∧ Wr (fun x => x = ob ∨ x = mb ∨ x = eb ∨ x = rb) w w3) := by
        refine ⟨S3, T3, ?_, HA2.out.wr W3 (fun _ => hbs.out) ?_, (HW.out.trans (HW2.out.mono ?_)).trans (W3.mono ?_)⟩
        · have hb2 : Blk w2 rb _ 110 := HR2.out
          exact hb2.wr W3 (fun h => by
            rcases h with h | h | h
            · exact HS2.out.o.ne hb2 (by decide) h.symm
            · exact HS2.out.m.ne hb2 (by decide) h.symm
            · exact HS2.out.e.ne hb2 (by decide) h.symm)
        · intro h; omega
        · intro x _ h; omega
        · intro x _ h; omega
      clear S3 T3 W3
      go_wp2
      go_roundg (gk - 1)
      case measure => have := HK.out; omega
      case rel => exact ⟨k + 1, by have := HK.out; omega, ov3, mk3, ev3, fin.out⟩
    · have hke : Hid (ps.length ≤ k) := by have := HK.out; show _ ≤ _; omega
      have hkl : Hid (k = ps.length) := by have := HK.out; show _ = _; omega
      go_wp2_with (go_at_call 60; refine (kind_out ps.length (some ⟨b, off, none⟩) cap rb k 0 wr hke.out HR.out).mono ?_; rintro e w1 ⟨rfl, hb1⟩)
      go_end0
      refine ⟨rfl, ov', mk', ev', HS.out.here hb1, ?_, HW.out.trans (Wr.here hb1)⟩
      rw [← hkl.out]
      exact HT.out.elim Or.inl (fun h => Or.inr ⟨h.1.here hb1, h.2⟩)
end Go.Proofs.YtdbepogafbagpaaDoor
