import Derived.Test.YtdlolnahbgecjaaDoorGood
import Derived.Deep.QuietTactic
import Derived.BigQuiet
namespace Go.Proofs.YtdlolnahbgecjaaDoor
open Go.RowKit

theorem At.below {w w' : World} {b off : Nat} {ps : List Pt} (h : At w b off ps) {B : Nat} (hB : Below B w w') (hb : 0 < ps.length → b < B) : At w' b off ps := by
  intro i hi
  have hb := hb (by omega)
  obtain ⟨h0, h1, h2⟩ := h i hi
  exact ⟨(hB.cell (p := ⟨b, _, none⟩) hb).trans h0, (hB.cell (p := ⟨b, _, none⟩) hb).trans h1, (hB.cell (p := ⟨b, _, none⟩) hb).trans h2⟩

/-- how many bytes the first k parts add -/
def textTo (ps : List Pt) : Nat → Nat
  | 0 => 0
  | k + 1 => textTo ps k + (nth ps k).t.size
/-- how many bytes the first k parts make -/
def madeTo (ps : List Pt) : Nat → Int
  | 0 => 0
  | k + 1 => madeTo ps k + (if (nth ps k).k = 3 then 0 else (nth ps k).n + (nth ps k).t.size)
theorem textTo_le (ps : List Pt) {i j : Nat} (h : i ≤ j) : textTo ps i ≤ textTo ps j := by
  induction j with
  | zero => simp [show i = 0 by omega]
  | succ j ih =>
    by_cases e : i = j + 1
    · subst e; exact Nat.le_refl _
    · have := ih (by omega); simp only [textTo]; omega
theorem fromTo_part {ps : List Pt} {k : Nat} {s : Int} (h : fromTo ps (k + 1) = some s) : ∃ r, fromTo ps k = some r ∧ s = r + (nth ps k).n ∧ (nth ps k).n ≤ 4611686018427387904 - r := by
  simp only [fromTo] at h
  cases e : fromTo ps k with
  | none => rw [e] at h; simp at h
  | some r =>
    rw [e] at h
    simp only at h
    by_cases c : 4611686018427387904 - r < (nth ps k).n
    · rw [if_pos c] at h; simp at h
    · rw [if_neg c] at h; simp at h; exact ⟨r, rfl, h.symm, by omega⟩
theorem fromTo_head {ps : List Pt} {k j : Nat} {s : Int} (h : fromTo ps j = some s) (hk : k ≤ j) : ∃ r, fromTo ps k = some r := by
  cases e : fromTo ps k with
  | none => rw [fromTo_stays e hk] at h; simp at h
  | some r => exact ⟨r, rfl⟩
theorem made_bd {ps : List Pt} (hn : ∀ i, 0 ≤ (nth ps i).n ∧ (nth ps i).n ≤ 9223372036854775807) : ∀ (k : Nat) (s : Int), fromTo ps k = some s → 0 ≤ s ∧ s ≤ 4611686018427387904 ∧ 0 ≤ madeTo ps k ∧ madeTo ps k ≤ s + textTo ps k := by
  intro k
  induction k with
  | zero => intro s h; simp [fromTo] at h; subst h; simp [madeTo, textTo]
  | succ k ih =>
    intro s h
    obtain ⟨r, hr, hs, hle⟩ := fromTo_part h
    obtain ⟨a, b, c, d⟩ := ih r hr
    have := hn k
    refine ⟨by omega, by omega, ?_, ?_⟩ <;> simp only [madeTo, textTo] <;> split <;> omega
theorem ok_n {p : Pt} (h : okPt p = true) : 0 ≤ p.n := by
  simp [okPt] at h
  rcases h with ⟨⟨_, h⟩, _⟩ | ⟨⟨_, h⟩, _⟩ <;> omega

def refFit (ps : List Pt) (len : Int) : Int × Int := if Good ps = false then (0, 1) else if From ps < 0 ∨ From ps ≠ len then (0, 2) else (madeTo ps ps.length, 0)

set_option maxRecDepth 100000
theorem ret_two {k j : IntKind} {a b c d : Int} (h : a = b) (h' : c = d) : Ending.returned (.tuple #[.int k a, .int j c]) = .returned (.tuple #[.int k b, .int j d]) := by rw [h, h']

/-- A list of parts as an argument: its value, its cells, all numbers in range, its bulk. -/
structure Arg (w : World) (ps : List Pt) (ao : Option Addr) (b off : Nat) : Prop where
  ao : 0 < ps.length → ao = some ⟨b, off, none⟩
  lt : 0 < ps.length → b < w.heap.size
  cells : At w b off ps
  len : ps.length ≤ 1048576
  text : textTo ps ps.length ≤ 1048576
  num : ∀ i, -9223372036854775808 ≤ (nth ps i).n ∧ (nth ps i).n ≤ 9223372036854775807
  kind : ∀ i, -9223372036854775808 ≤ (nth ps i).k ∧ (nth ps i).k ≤ 9223372036854775807
theorem Arg.below {w w' : World} {ps : List Pt} {ao : Option Addr} {b off : Nat} (h : Arg w ps ao b off) {B : Nat} (hB : Below B w w') (hb : 0 < ps.length → b < B) : Arg w' ps ao b off :=
  ⟨h.ao, fun hp => Nat.lt_of_lt_of_le (h.lt hp) hB.size, h.cells.below hB hb, h.len, h.text, h.num, h.kind⟩

set_option maxHeartbeats 1000000 in
theorem refFit_any (ps : List Pt) (ao : Option Addr) (b off cap : Nat) (len : Int) (w : World) (A : Arg w ps ao b off) :
    Calls Tryd.prog 12 #[.slice ao ps.length cap, .int .i64 len] w fun e w' => e = .returned (.tuple #[.int .i64 (refFit ps len).1, .int .i64 (refFit ps len).2]) ∧ Below w.heap.size w w' := by
  cases hg : Good ps with
  | false =>
    have HR : Hid (refFit ps len = (0, 1)) := by unfold refFit; rw [if_pos hg]; trivial
    go_enter Tryd.func12, Tryd.ntmps12
    go_wp2_with (go_at_call 27; refine (good_any ps ao b off cap w A.ao A.lt A.cells A.len).mono ?_; rw [hg]; rintro e w' ⟨rfl, hb⟩)
    go_ret2
    exact ⟨ret_two (congrArg Prod.fst HR.out.symm) (congrArg Prod.snd HR.out.symm), hb⟩
  | true =>
    have hn : ∀ i, 0 ≤ (nth ps i).n ∧ (nth ps i).n ≤ 9223372036854775807 := fun i => by
      by_cases hi : i < ps.length
      · exact ⟨ok_n (good_nth hg i hi), (A.num i).2⟩
      · simp [nth, List.getD, List.getElem?_eq_none (by omega : ps.length ≤ i)]
    by_cases hf : From ps < 0 ∨ From ps ≠ len
    · have HR : Hid (refFit ps len = (0, 2)) := by unfold refFit; rw [if_neg (by simp [hg]), if_pos hf]; trivial
      by_cases hf0 : From ps < 0
      · go_enter Tryd.func12, Tryd.ntmps12
        go_wp2_with (first | (go_at_call 27; refine (good_any ps ao b off cap w A.ao A.lt A.cells A.len).mono ?_; rw [hg]; rintro e w1 ⟨rfl, hb⟩) | (go_at_call 28; refine (from_any ps ao b off cap _ A.ao (A.cells.below (by assumption) A.lt) A.len hn).mono ?_; rintro e w2 ⟨rfl, rfl⟩))
        go_ret2
        exact ⟨ret_two (congrArg Prod.fst HR.out.symm) (congrArg Prod.snd HR.out.symm), hb⟩
      · have hf1 : (From ps != len) = true := by rw [bne_iff_ne]; omega
        clear hf
        go_enter Tryd.func12, Tryd.ntmps12
        go_wp2_with (first | (go_at_call 27; refine (good_any ps ao b off cap w A.ao A.lt A.cells A.len).mono ?_; rw [hg]; rintro e w1 ⟨rfl, hb⟩) | (go_at_call 28; refine (from_any ps ao b off cap _ A.ao (A.cells.below (by assumption) A.lt) A.len hn).mono ?_; rintro e w2 ⟨rfl, rfl⟩))
        go_ret2
        exact ⟨ret_two (congrArg Prod.fst HR.out.symm) (congrArg Prod.snd HR.out.symm), hb⟩
    · have HR : Hid (refFit ps len = (madeTo ps ps.length, 0)) := by unfold refFit; rw [if_neg (by simp [hg]), if_neg hf]; trivial
      have hf0 : 0 ≤ From ps := by omega
      have hf1 : From ps = len := by omega
      obtain ⟨s, hs⟩ : ∃ s, fromTo ps ps.length = some s := by
        cases e : fromTo ps ps.length with
        | none => simp [From, e] at hf0
        | some s => exact ⟨s, rfl⟩
      have hF : From ps = s := by simp [From, hs]
      have HS : Hid (fromTo ps ps.length = some s) := hs
      have hsb := made_bd hn _ _ hs
      subst hf1
      clear hs hf hf0
      rw [hF]
      rw [hF] at HR
      rcases Nat.eq_zero_or_pos ps.length with hz | hz
      · have HM : Hid (madeTo ps ps.length = 0) := by rw [hz]; trivial
        have hz' : ps.length ≤ 0 := by omega
        clear hz
        go_enter Tryd.func12, Tryd.ntmps12
        go_wp2_with (first | (go_at_call 27; refine (good_any ps ao b off cap w A.ao A.lt A.cells A.len).mono ?_; rw [hg]; rintro e w1 ⟨rfl, hb⟩) | (go_at_call 28; refine (from_any ps ao b off cap _ A.ao (A.cells.below (by assumption) A.lt) A.len hn).mono ?_; rw [hF]; rintro e w2 ⟨rfl, rfl⟩))
        refine wp_loop_rounds 1 ?_
        rw [rounds_succ]
        go_wp2
        go_ret2
        exact ⟨ret_two ((HM.out.symm).trans (congrArg Prod.fst HR.out.symm)) (congrArg Prod.snd HR.out.symm), hb⟩
      obtain rfl := A.ao hz
      have hblt := A.lt hz
      go_enter Tryd.func12, Tryd.ntmps12
      go_wp2_with (first | (go_at_call 27; refine (good_any ps _ b off cap w A.ao A.lt A.cells A.len).mono ?_; rw [hg]; rintro e w1 ⟨rfl, hb⟩) | (go_at_call 28; refine (from_any ps _ b off cap _ A.ao (A.cells.below (by assumption) A.lt) A.len hn).mono ?_; rw [hF]; rintro e w2 ⟨rfl, rfl⟩))
      go_loopw [7, 8] (fun m i wr => ∃ k : Nat, k ≤ ps.length ∧ i = .int .i64 k ∧ m = .int .i64 (madeTo ps k) ∧ Below w.heap.size w wr) (fun _ i _ => ps.length - (intOf i).toNat)
      case atStart => exact ⟨0, Nat.zero_le _, rfl, rfl, hb⟩
      case round =>
        obtain ⟨k, hk, rfl, rfl, hbl⟩ := hrel
        by_cases hlt : k < ps.length
        · obtain ⟨r, hr⟩ := fromTo_head HS.out hk
          obtain ⟨r', hr'⟩ := fromTo_head HS.out (show k + 1 ≤ ps.length by omega)
          obtain ⟨r2, hr2, e2, hle2⟩ := fromTo_part hr'
          obtain rfl : r = r2 := by rw [hr] at hr2; simpa using hr2
          have hkb := made_bd hn _ _ hr
          have hkb' := made_bd hn _ _ hr'
          have hlen := A.len
          have hnk := hn k
          have ht := textTo_le ps hk
          have ht' := textTo_le ps (show k + 1 ≤ ps.length by omega)
          have htx := A.text
          obtain ⟨c0, c1, c2⟩ := A.cells k hlt
          have d0 := (hbl.cell (p := ⟨b, off + k * 3, none⟩) hblt).trans c0
          have d1 := (hbl.cell (p := ⟨b, off + k * 3 + 1, none⟩) hblt).trans c1
          have d2 := (hbl.cell (p := ⟨b, off + k * 3 + 2, none⟩) hblt).trans c2
          have HM : Hid (madeTo ps (k + 1) = madeTo ps k + (if (nth ps k).k = 3 then 0 else (nth ps k).n + (nth ps k).t.size)) := rfl
          have hsz : textTo ps (k + 1) = textTo ps k + (nth ps k).t.size := rfl
          clear hr hr' hr2 e2 c0 c1 c2 hkb'
          by_cases h3 : (nth ps k).k = 3
          · have h3' : ((nth ps k).k != 3) = false := by simp [h3]
            have HM' : Hid (madeTo ps (k + 1) = madeTo ps k) := by rw [HM.out, if_pos h3]; simp; trivial
            clear h3 HM
            go_wp2
            go_roundw
            case rel => exact ⟨k + 1, by omega, by go_num, by rw [HM'.out], hbl⟩
            case measure => simp [intOf]; omega
          · have h3' : ((nth ps k).k != 3) = true := by rw [bne_iff_ne]; exact h3
            have HM' : Hid (madeTo ps (k + 1) = madeTo ps k + (nth ps k).n + (nth ps k).t.size) := by rw [HM.out, if_neg h3]; show _ = _; omega
            clear h3 HM
            have hsz2 : (nth ps k).t.size ≤ 1048576 := by omega
            have hs2 := hkb.2.2
            have hs3 : madeTo ps k + (nth ps k).n ≤ 4611686018427387904 + 1048576 := by omega
            clear hsz ht ht' hle2
            go_wp2
            go_quiet (fail)
            go_wp2
            go_roundw
            case rel => exact ⟨k + 1, by omega, by go_num, by rw [HM'.out], below_drewN hbl _⟩
            case measure => simp [intOf]; omega
        · have HK : Hid (madeTo ps k = madeTo ps ps.length) := by rw [show k = ps.length by omega]; trivial
          go_wp2
          go_ret2
          exact ⟨ret_two (by rw [HK.out]; exact congrArg Prod.fst HR.out.symm) (congrArg Prod.snd HR.out.symm), hbl⟩
end Go.Proofs.YtdlolnahbgecjaaDoor
