import Derived.Test.YtdbepogafbagpaaDoorTake2
namespace Go.Proofs.YtdbepogafbagpaaDoor
open Go.RowKit
set_option linter.unusedVariables false

/-- m bytes of a part, from us on -/
def cut (p : Pt) (us m : Nat) : Pt := if p.k = 2 then ⟨p.k, p.n, p.t.extract us (us + m)⟩ else ⟨p.k, m, p.t⟩

theorem ok_cases {p : Pt} (h : okPt p = true) : ((p.k = 1 ∨ p.k = 3) ∧ 1 ≤ p.n ∧ p.t.size = 0) ∨ (p.k = 2 ∧ p.n = 0 ∧ 0 < p.t.size) := by
  simp [okPt] at h
  have key : p.t.toList = [] ↔ p.t.size = 0 := by
    rw [ByteArray.toList_eq]
    show p.t.data.toList = [] ↔ p.t.data.size = 0
    constructor
    · intro e
      rw [← Array.length_toList, e]; rfl
    · intro e
      rw [← Array.length_toList] at e
      exact List.eq_nil_of_length_eq_zero e
  rcases h with ⟨⟨a, b⟩, c⟩ | ⟨⟨a, b⟩, c⟩
  · exact Or.inl ⟨a, b, key.1 c⟩
  · exact Or.inr ⟨a, b, by have := mt key.2 c; omega⟩

theorem take_any (ps : List Pt) (b off cap rb k us n m : Nat) (w : World) (A : At w b off ps) (hb : b < w.heap.size) (hk : k < ps.length) (hlen : ps.length ≤ 1048576) (R : Rd w rb (.slice (some ⟨b, off, none⟩) ps.length cap) k us)
    (hbr : b ≠ rb) (hok : okPt (nth ps k) = true) (h1 : (us : Int) + m ≤ psz (nth ps k)) (h2 : psz (nth ps k) ≤ 9223372036854775807) (hm : min (n : Int) (psz (nth ps k) - us) = m) :
    Calls Tryd.prog 69 #[.pointer (some ⟨rb, 0, none⟩), .int .i64 n] w fun e w' => e = .returned (.agg #[.int .i64 (cut (nth ps k) us m).k, .int .i64 (cut (nth ps k) us m).n, .string (cut (nth ps k) us m).t]) ∧ Only rb w w' ∧
      RdAfter w' rb (.slice (some ⟨b, off, none⟩) ps.length cap) k us m (psz (nth ps k) - us) := by
  rcases ok_cases hok with ⟨h, h', h''⟩ | ⟨h, h', h''⟩
  · have e : cut (nth ps k) us m = ⟨(nth ps k).k, m, (nth ps k).t⟩ := by unfold cut; rw [if_neg (by omega)]
    rw [e]
    exact take_num ps b off cap rb k us n m w A hb hk hlen R hbr (by simp; omega) h1 h2 (by omega) hm
  · have e : cut (nth ps k) us m = ⟨(nth ps k).k, (nth ps k).n, (nth ps k).t.extract us (us + m)⟩ := by unfold cut; rw [if_pos h]
    rw [e]
    exact take_add ps b off cap rb k us n m w A hb hk hlen R hbr (by simp [h]) h' h1 h2 (by omega) hm

set_option maxRecDepth 100000 in
set_option maxHeartbeats 1000000 in
theorem rest_any (ps : List Pt) (b off cap rb k us m : Nat) (w : World) (A : At w b off ps) (hb : b < w.heap.size) (hk : k < ps.length) (hlen : ps.length ≤ 1048576) (R : Rd w rb (.slice (some ⟨b, off, none⟩) ps.length cap) k us)
    (hbr : b ≠ rb) (hok : okPt (nth ps k) = true) (h1 : (us : Int) + m = psz (nth ps k)) (h2 : psz (nth ps k) ≤ 9223372036854775807) :
    Calls Tryd.prog 61 #[.pointer (some ⟨rb, 0, none⟩)] w fun e w' => e = .returned (.agg #[.int .i64 (cut (nth ps k) us m).k, .int .i64 (cut (nth ps k) us m).n, .string (cut (nth ps k) us m).t]) ∧ Only rb w w' ∧
      Rd w' rb (.slice (some ⟨b, off, none⟩) ps.length cap) ((k : Int) + 1) 0 := by
  have hr := R.lt
  have hn3 : 0 ≤ (nth ps k).n := ok_n hok
  have HL : Hid (∀ wx, At wx b off ps → b < wx.heap.size → Rd wx rb (.slice (some ⟨b, off, none⟩) ps.length cap) k us → Calls Tryd.prog 70 #[.pointer (some ⟨rb, 0, none⟩)] wx fun e w' => e = .returned (.int .i64 m) ∧ Below wx.heap.size wx w') := fun wx Ax hbx Rx => by
    have := left_in ps b off cap rb k us wx Ax hbx hk Rx (by omega) (by omega) h2 hn3
    rwa [show psz (nth ps k) - us = m by omega] at this
  have HT : Hid (∀ wx, At wx b off ps → b < wx.heap.size → Rd wx rb (.slice (some ⟨b, off, none⟩) ps.length cap) k us → Calls Tryd.prog 69 #[.pointer (some ⟨rb, 0, none⟩), .int .i64 m] wx fun e w' => e = .returned (.agg #[.int .i64 (cut (nth ps k) us m).k, .int .i64 (cut (nth ps k) us m).n, .string (cut (nth ps k) us m).t]) ∧ Only rb wx w' ∧
      Rd w' rb (.slice (some ⟨b, off, none⟩) ps.length cap) ((k : Int) + 1) 0) := fun wx Ax hbx Rx => by
    refine (take_any ps b off cap rb k us m m wx Ax hbx hk hlen Rx hbr hok (by omega) h2 (by omega)).mono ?_
    rintro e w' ⟨rfl, ho, hr'⟩
    refine ⟨rfl, ho, ?_⟩
    unfold RdAfter at hr'
    rw [if_pos (by omega)] at hr'
    exact hr'
  generalize cut (nth ps k) us m = q at *
  have HA : Hid (At w b off ps) := A
  have HR : Hid (Rd w rb (.slice (some ⟨b, off, none⟩) ps.length cap) k us) := R
  clear A R h1 h2 hok hn3
  have hw0 : Hid (Below w.heap.size w (w.alloc (.cells #[.int .i64 0, .int .i64 0, .string ⟨#[]⟩] 61))) := (Below.refl _ _).alloc (Nat.le_refl _) _
  go_enter Tryd.func61, Tryd.ntmps61
  go_wp2_with (first | (go_at_call 70; refine (HL.out _ (HA.out.below hw0.out (fun _ => hb)) (by simp; omega) (HR.out.below hw0.out hr)).mono ?_; rintro e w1 ⟨rfl, hb1⟩; have hbw1 : Hid (Below w.heap.size w w1) := hw0.out.trans (hb1.mono (by simp)); have hZ1 : Hid (Blk w1 w.heap.size #[.int .i64 0, .int .i64 0, .string ⟨#[]⟩] 61) := (Blk.new w _ 61).here hb1) | (go_at_call 69; refine (HT.out w1 (HA.out.below hbw1.out (fun _ => hb)) (Nat.lt_of_lt_of_le hb hbw1.out.size) (HR.out.below hbw1.out hr)).mono ?_; rintro e w2 ⟨rfl, ho2, hR2⟩; have hZ2 : Hid (Blk w2 w.heap.size #[.int .i64 0, .int .i64 0, .string ⟨#[]⟩] 61) := hZ1.out.only ho2 (by omega); have z0 : w2.cell? ⟨w.heap.size, 0, none⟩ = some (.int .i64 0) := hZ2.out.cell 0 rfl; have z1 : w2.cell? ⟨w.heap.size, 1, none⟩ = some (.int .i64 0) := hZ2.out.cell 1 rfl; have z2 : w2.cell? ⟨w.heap.size, 2, none⟩ = some (.string ⟨#[]⟩) := hZ2.out.cell 2 rfl; have fz := hZ2.out.free; have HR2 : Hid (Rd w2 rb (.slice (some ⟨b, off, none⟩) ps.length cap) ((k : Int) + 1) 0) := hR2; clear hR2))
  have hO : Hid (Only rb w w2) := Only.trans (Only.of_below hbw1.out) ho2
  have y3' : rb ≠ w.heap.size := by omega
  refine bodyPost_ret (v := .agg #[.int .i64 q.k, .int .i64 q.n, .string q.t]) (by simp [results, Tryd.results61, go_sem, z0, z1, z2]) rfl ⟨rfl, ?_, ?_⟩
  · exact ((hO.out.setNew (Nat.le_refl _) 0 _).setNew (Nat.le_refl _) 1 _).setNew (Nat.le_refl _) 2 _
  · exact Blk.setOther (Blk.setOther (Blk.setOther HR2.out _ _ y3') _ _ y3') _ _ y3'
end Go.Proofs.YtdbepogafbagpaaDoor
