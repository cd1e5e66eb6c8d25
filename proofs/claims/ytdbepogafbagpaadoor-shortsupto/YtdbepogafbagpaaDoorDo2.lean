import Derived.Test.YtdbepogafbagpaaDoorDo1
namespace Go.Proofs.YtdbepogafbagpaaDoor
open Go.RowKit
set_option linter.unusedVariables false

/-- how many bytes of the text the first k parts go over -/
def atTo (ps : List Pt) : Nat → Nat
  | 0 => 0
  | k + 1 => atTo ps k + (nth ps k).n.toNat
/-- what is done behind k parts, and what is left of the text -/
def doTo (text : ByteArray) (ps : List Pt) : Nat → ByteArray × ByteArray
  | 0 => (⟨#[]⟩, text)
  | k + 1 => (doneOf (nth ps k) (doTo text ps k).1 (doTo text ps k).2 (nth ps k).n.toNat, curOf (nth ps k) (doTo text ps k).2 (nth ps k).n.toNat)

theorem at_from {ps : List Pt} (hn : ∀ i, 0 ≤ (nth ps i).n) : ∀ (k : Nat) (r : Int), fromTo ps k = some r → (atTo ps k : Int) = r
  | 0, r, h => by simp [fromTo] at h; simp [atTo, h]
  | k + 1, r, h => by
    obtain ⟨s, hs, hr, _⟩ := fromTo_part h
    have := at_from hn k s hs
    have := hn k
    simp only [atTo]; omega
theorem at_mono (ps : List Pt) {i j : Nat} (h : i ≤ j) : atTo ps i ≤ atTo ps j := by
  induction j with
  | zero => simp [show i = 0 by omega]
  | succ j ih =>
    by_cases e : i = j + 1
    · subst e; exact Nat.le_refl _
    · have := ih (by omega); simp only [atTo]; omega

/-- what is asked of a change that fits the text -/
structure Fits (ps : List Pt) (text : ByteArray) : Prop where
  lst : Lst ps
  fit : fromTo ps ps.length = some (text.size : Int)
  tsz : text.size ≤ 1048576
theorem Fits.nn {ps : List Pt} {text : ByteArray} (F : Fits ps text) (i : Nat) : 0 ≤ (nth ps i).n := by
  by_cases hi : i < ps.length
  · exact ok_n (good_nth F.lst.good i hi)
  · simp [nth, List.getD, List.getElem?_eq_none (by omega : ps.length ≤ i)]
theorem Fits.at_le {ps : List Pt} {text : ByteArray} (F : Fits ps text) (k : Nat) (hk : k ≤ ps.length) : atTo ps k ≤ text.size := by
  have h := at_from F.nn _ _ F.fit
  have := at_mono ps hk
  omega
theorem Fits.cur {ps : List Pt} {text : ByteArray} (F : Fits ps text) : ∀ k, k ≤ ps.length → (doTo text ps k).2 = text.extract (atTo ps k) text.size
  | 0, _ => by simp [doTo, atTo]
  | k + 1, hk => by
    have ih := F.cur k (by omega)
    have hok := good_nth F.lst.good k (by omega)
    have hle := F.at_le (k + 1) hk
    simp only [doTo, atTo, curOf] at *
    rcases ok_cases hok with ⟨h, _, _⟩ | ⟨h, h', _⟩
    · rw [if_neg (by omega), ih, ByteArray.extract_extract, ByteArray.size_extract]
      congr 1
      omega
    · rw [if_pos h, ih, h']; simp
theorem Fits.sizes {ps : List Pt} {text : ByteArray} (F : Fits ps text) : ∀ k, k ≤ ps.length → (doTo text ps k).1.size + (doTo text ps k).2.size ≤ text.size + textTo ps k
  | 0, _ => by simp only [doTo, textTo]; show 0 + text.size ≤ _; omega
  | k + 1, hk => by
    have ih := F.sizes k (by omega)
    have hok := good_nth F.lst.good k (by omega)
    have hle := F.at_le (k + 1) hk
    have hc := F.cur k (by omega)
    have hcs : (doTo text ps k).2.size = text.size - atTo ps k := by rw [hc, ByteArray.size_extract]; omega
    simp only [doTo, textTo, doneOf, curOf, atTo] at *
    rcases ok_cases hok with ⟨h, _, h''⟩ | ⟨h, h', _⟩
    · rw [if_neg (show ¬ (nth ps k).k = 2 by omega)]
      split
      · rw [ByteArray.size_append, ByteArray.size_extract, ByteArray.size_extract]; omega
      · rw [ByteArray.size_append, ByteArray.size_extract]; omega
    · rw [if_neg (by omega), if_pos h, ByteArray.size_append]; omega
end Go.Proofs.YtdbepogafbagpaaDoor
