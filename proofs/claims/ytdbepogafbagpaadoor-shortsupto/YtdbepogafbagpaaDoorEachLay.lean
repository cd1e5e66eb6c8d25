import Derived.Test.YtdbepogafbagpaaDoorPure2
namespace Go.Proofs.YtdbepogafbagpaaDoor
open Go.RowKit
set_option linter.unusedVariables false

set_option maxRecDepth 100000 in
set_option maxHeartbeats 2000000 in
theorem eachLay_pos (base wb rb b off cap : Nat) (ps : List Pt) (L : Lst ps) (S : Int) (hf : fromTo ps ps.length = some S) (w : World) (ov p v : Value) (D : Wt base wb w ⟨[], ⟨#[]⟩, 0⟩ ov p v)
    (A : At w b off ps) (hb : b < base) (hbr : base ≤ rb) (R : Rd w rb (.slice (some ⟨b, off, none⟩) ps.length cap) 0 0) :
    Calls Tryd.prog 43 #[.pointer (some ⟨rb, 0, none⟩), .func (.func 56) #[.pointer (some ⟨wb, 0, none⟩)] #[]] w fun e w' => e = .returned (.tuple #[]) ∧ ∃ o' p' v', Wt base wb w' (layTo ps ps.length) o' p' v' ∧ Fr base [107, 61, 5, 110] w w' := by
  have hlen := L.len
  have htx := L.text
  have Hst : Hid (Wt base wb w ⟨[], ⟨#[]⟩, 0⟩ ov p v ∧ Rd w rb (.slice (some ⟨b, off, none⟩) ps.length cap) 0 0 ∧ At w b off ps) := ⟨D, R, A⟩
  clear D R A
  go_enter Tryd.func43, Tryd.ntmps43
  go_wp2
  go_loopg [4] ps.length (fun j u wr => ∃ k : Nat, k + j = ps.length ∧ ∃ o' p' v', Wt base wb wr (layTo ps k) o' p' v' ∧ Rd wr rb (.slice (some ⟨b, off, none⟩) ps.length cap) k 0 ∧ At wr b off ps ∧ Fr base [107, 61, 5, 110] w wr)
  case atStart => exact ⟨0, by omega, ov, p, v, Hst.out.1, Hst.out.2.1, Hst.out.2.2, Fr.refl _ _ _⟩
  case round =>
    obtain ⟨k, hk, o', p', v', D, R, A, W⟩ := hrel
    have HD : Hid (Wt base wb wr (layTo ps k) o' p' v') := D
    have HR : Hid (Rd wr rb (.slice (some ⟨b, off, none⟩) ps.length cap) k 0) := R
    have HA : Hid (At wr b off ps) := A
    have HW : Hid (Fr base [107, 61, 5, 110] w wr) := W
    have hbs : base ≤ wr.heap.size := D.bw
    have hbw : b < wr.heap.size := by omega
    have HK : Hid (k + gk = ps.length) := hk
    clear D R A W hk
    by_cases hlt : k < ps.length
    · have hok := good_nth L.good k hlt
      have hts := size_le_text ps k hlt
      have hz := psz_ok hok (L.num k) (by omega)
      obtain ⟨m, hm⟩ : ∃ m : Nat, (m : Int) = psz (nth ps k) := ⟨(psz (nth ps k)).toNat, by omega⟩
      have HC : Hid (cut (nth ps k) 0 m = nth ps k) := cut_full hok m hm
      have hkz := (ok_pos hok).2
      have HRest : Hid (∀ wx, At wx b off ps → b < wx.heap.size → Rd wx rb (.slice (some ⟨b, off, none⟩) ps.length cap) k 0 → Calls Tryd.prog 61 #[.pointer (some ⟨rb, 0, none⟩)] wx fun e w' => e = .returned (.agg #[.int .i64 (nth ps k).k, .int .i64 (nth ps k).n, .string (nth ps k).t]) ∧ Only rb wx w' ∧ Rd w' rb (.slice (some ⟨b, off, none⟩) ps.length cap) ((k : Int) + 1) 0) := fun wx Ax hbx Rx => by
        have := rest_any ps b off cap rb k 0 m wx Ax hbx hlt hlen Rx (by omega) hok (by simpa using hm) hz.2
        rwa [HC.out] at this
      have HKind : Hid (∀ wx, At wx b off ps → b < wx.heap.size → Rd wx rb (.slice (some ⟨b, off, none⟩) ps.length cap) k 0 → Calls Tryd.prog 60 #[.pointer (some ⟨rb, 0, none⟩)] wx fun e w' => e = .returned (.int .i64 (nth ps k).k) ∧ Below wx.heap.size wx w') := fun wx Ax hbx Rx => kind_in ps b off cap rb k 0 wx Ax hbx hlt Rx
      have HClos : Hid (∀ wx, Wt base wb wx (layTo ps k) o' p' v' → Calls Tryd.prog 56 #[.pointer (some ⟨wb, 0, none⟩), .agg #[.int .i64 (nth ps k).k, .int .i64 (nth ps k).n, .string (nth ps k).t]] wx fun e w' => e = .returned (.tuple #[]) ∧ ∃ o' p' v', Wt base wb w' (layTo ps (k + 1)) o' p' v' ∧ Fr base [107, 61, 5] wx w') := fun wx Dx => by
        obtain ⟨r1, hr1⟩ := fromTo_head hf (show k + 1 ≤ ps.length by omega)
        obtain ⟨r0, hr0, e1, hle⟩ := fromTo_part hr1
        have hWO := layTo_ok L.good k (by omega) r0 hr0
        have ht1 := textTo_le ps (show k ≤ ps.length by omega)
        exact lay_ok base wb wx (layTo ps k) o' p' v' (nth ps k) r0 (3 * k) (textTo ps k) Dx hWO hok (by omega) (by omega) (by omega)
      clear hm hz hts hok HC
      generalize nth ps k = q at *
      go_wp2_with fail
      refine (HKind.out wr HA.out hbw HR.out).mono ?_
      rintro e w1 ⟨rfl, hb1⟩
      have HA1 : Hid (At w1 b off ps) := HA.out.below hb1 (fun _ => hbw)
      have HR1 : Hid (Rd w1 rb (.slice (some ⟨b, off, none⟩) ps.length cap) k 0) := HR.out.below hb1 HR.out.lt
      have hbw1 : b < w1.heap.size := Nat.lt_of_lt_of_le hbw hb1.size
      go_wp2_with fail
      refine (HRest.out w1 HA1.out hbw1 HR1.out).mono ?_
      rintro e w2 ⟨rfl, ho, R2⟩
      have HR2 : Hid (Rd w2 rb (.slice (some ⟨b, off, none⟩) ps.length cap) ((k : Int) + 1) 0) := R2
      have hbR : Blk wr rb #[.slice (some ⟨b, off, none⟩) ps.length cap, .int .i64 k, .int .i64 0] 110 := HR.out
      have HW2 : Hid (Wr (fun x => x = rb) wr w2) := (Wr.here hb1).trans (Wr.only ho rfl)
      have HD2 : Hid (Wt base wb w2 (layTo ps k) o' p' v') :=
        ⟨HD.out.blk.wr HW2.out (HD.out.blk.ne hbR (by decide)), HD.out.p, ownsRow_wr HD.out.out HW2.out (fun x hx (e : x = rb) => own_ne HD.out.out hbR (by decide) (by rw [hx, e])), ownsRow_wr HD.out.buf HW2.out (fun x hx (e : x = rb) => own_ne HD.out.buf hbR (by decide) (by rw [hx, e])), HD.out.bb, Nat.le_trans HD.out.bw HW2.out.size⟩
      have HA2 : Hid (At w2 b off ps) := HA.out.wr HW2.out (fun _ => hbw) (by omega)
      have HF2 : Hid (Fr base [107, 61, 5, 110] wr w2) := Fr.of_wr HW2.out (by rintro x rfl; exact ⟨hbr, fun o ho => by obtain ⟨cs, t, fr, e, ht⟩ := blk_kind hbR o ho; exact ⟨cs, t, fr, e, by simp [ht]⟩⟩)
      clear R2 ho hb1 hbR
      go_wp2_with fail
      refine (HClos.out w2 HD2.out).mono ?_
      rintro e w3 ⟨rfl, o3, p3, v3, D3, F3⟩
      have hb2 : Hid (base ≤ w2.heap.size) := HD2.out.bw
      have fin : Hid (Wt base wb w3 (layTo ps (k + 1)) o3 p3 v3 ∧ Rd w3 rb (.slice (some ⟨b, off, none⟩) ps.length cap) ((k + 1 : Nat) : Int) 0 ∧ At w3 b off ps ∧ Fr base [107, 61, 5, 110] w w3) :=
        ⟨D3, Blk.fr HR2.out F3 (by decide), HA2.out.fr F3 hb2.out (fun _ => hb), (HW.out.trans HF2.out).trans (F3.mono (by simp +contextual))⟩
      clear D3 F3
      go_wp2
      go_roundg (gk - 1)
      case measure => have := HK.out; omega
      case rel => exact ⟨k + 1, by have := HK.out; omega, o3, p3, v3, fin.out⟩
    · have hke : Hid (ps.length ≤ k) := by have := HK.out; show _ ≤ _; omega
      have hkl : Hid (k = ps.length) := by have := HK.out; show _ = _; omega
      go_wp2_with (go_at_call 60; refine (kind_out ps.length (some ⟨b, off, none⟩) cap rb k 0 wr hke.out HR.out).mono ?_; rintro e w1 ⟨rfl, hb1⟩)
      go_end0
      refine ⟨rfl, o', p', v', ?_, HW.out.trans (Fr.here hb1)⟩
      have h := HD.out.here hb1
      rwa [hkl.out] at h

theorem eachLay_any (base wb rb b off cap : Nat) (ao : Option Addr) (ps : List Pt) (L : Lst ps) (S : Int) (hf : fromTo ps ps.length = some S) (w : World) (ov p v : Value) (D : Wt base wb w ⟨[], ⟨#[]⟩, 0⟩ ov p v)
    (hao : 0 < ps.length → ao = some ⟨b, off, none⟩) (A : At w b off ps) (hb : 0 < ps.length → b < base) (hbr : base ≤ rb) (R : Rd w rb (.slice ao ps.length cap) 0 0) :
    Calls Tryd.prog 43 #[.pointer (some ⟨rb, 0, none⟩), .func (.func 56) #[.pointer (some ⟨wb, 0, none⟩)] #[]] w fun e w' => e = .returned (.tuple #[]) ∧ ∃ o' p' v', Wt base wb w' (layTo ps ps.length) o' p' v' ∧ Fr base [107, 61, 5, 110] w w' := by
  rcases Nat.eq_zero_or_pos ps.length with hz | hz
  · refine (each_zero ps.length ao cap rb _ w hz R).mono ?_
    rintro e w1 ⟨rfl, hb1⟩
    refine ⟨rfl, ov, p, v, ?_, Fr.here hb1⟩
    rw [hz]
    exact D.here hb1
  · obtain rfl := hao hz
    exact eachLay_pos base wb rb b off cap ps L S hf w ov p v D A (hb hz) hbr R
end Go.Proofs.YtdbepogafbagpaaDoor
