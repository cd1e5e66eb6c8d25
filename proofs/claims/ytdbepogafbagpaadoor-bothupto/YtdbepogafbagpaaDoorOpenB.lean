import Derived.Test.YtdbepogafbagpaaDoorRows
import Derived.Test.YtdbepogafbagpaaDoorFitsWalk
import Derived.ProofKit
import Derived.OpenShut
import Derived.Deep.Slices
import Derived.Deep.Strs
import Derived.Stop.LaidTwo
import Derived.Stop.Joined
import Derived.LaidMore
import Derived.Lib.LaidTab
namespace Go.Proofs.YtdbepogafbagpaaDoor
open Go.ChangeShapes Go.WideShapes Go.ChangeAt Go.RowKit
set_option linter.unusedVariables false

theorem bulk_append {H : Type} (l r : List (DataW H)) : Rows.uptoBulkAll (l ++ r) = Rows.uptoBulkAll l + Rows.uptoBulkAll r := by
  induction l with
  | nil => simp [Rows.uptoBulkAll]
  | cons x l ih => simp only [List.cons_append, Rows.uptoBulkAll, ih]; omega

def ptData {H : Type} (q : Pt) : DataW H := .agg [.lit (.int .i64 q.k), .lit (.int .i64 q.n), .lit (.string q.t.data.toList)]
theorem bulk_pt {H : Type} (q : Pt) : Rows.uptoBulk (ptData (H := H) q) = q.t.size + 4 := by
  simp only [ptData, Rows.uptoBulk, Rows.uptoBulkAll, Array.length_toList]
  show _ = q.t.data.size + 4
  omega
theorem bulk_pts {H : Type} (D : Nat → DataW H) (q : Nat → Pt) (len : Nat) (h : ∀ i, i < len → D i = ptData (q i)) : ∀ k, k ≤ len → k + textTo ((List.range len).map q) k ≤ Rows.uptoBulkAll ((List.range k).map D) := by
  intro k
  induction k with
  | zero => intro _; simp [textTo]
  | succ k ih =>
    intro hk
    have := ih (by omega)
    rw [List.range_succ, List.map_append, bulk_append]
    have e : nth ((List.range len).map q) k = q k := by simp [nth, List.getD, show k < len by omega]
    simp only [textTo, e, List.map_cons, List.map_nil, Rows.uptoBulkAll, h k (by omega), bulk_pt]
    omega

theorem Tryd.cells60 : Tryd.prog.cellsOf 60 = 3 := by kernel_rfl
theorem Tryd.cells3 : Tryd.prog.cellsOf 3 = 1 := by kernel_rfl
theorem Tryd.cells9 : Tryd.prog.cellsOf 9 = 1 := by kernel_rfl

theorem three_of {α : Type} {l : List α} (h : l.length = 3) : ∃ a b c, l = [a, b, c] := by
  cases l with
  | nil => simp at h
  | cons a l =>
    cases l with
    | nil => simp at h
    | cons b l =>
      cases l with
      | nil => simp at h
      | cons c l =>
        cases l with
        | nil => exact ⟨a, b, c, rfl⟩
        | cons d l => simp at h

theorem open_part {H : Type} {enc : TypeId × Value → H} {W : World} {spare : Nat → Bool} {held : Bool} {n : Nat} {cs : List Value} {x : DataW H × List MemPlace} (h : DataW.trod enc Tryd.prog W 0 spare held n 60 cs = some x) :
    ∃ q : Pt, cs = [.int .i64 q.k, .int .i64 q.n, .string q.t] ∧ x.1 = ptData q ∧ (Lit.int .i64 q.k).wf = true ∧ (Lit.int .i64 q.n).wf = true := by
  obtain ⟨y0, y1, y2, m, rfl, hl, h0, h1, h2⟩ := Go.Deep.trod_struct3 Tryd.underlying60 h
  rw [Tryd.cells60] at hl
  obtain ⟨c0, c1, c2, rfl⟩ := three_of hl
  simp only [Tryd.cells3, Tryd.cells9, List.drop_zero, List.drop_succ_cons, List.take_succ_cons, List.take_zero] at h0 h1 h2
  obtain ⟨k, e0, rfl, w0⟩ := DataW.trod_int Tryd.underlying3 h0
  obtain ⟨n', e1, rfl, w1⟩ := DataW.trod_int Tryd.underlying3 h1
  obtain ⟨t, e2, rfl, w2⟩ := DataW.trod_string Tryd.underlying9 h2
  simp at e0 e1 e2
  subst e0 e1 e2
  exact ⟨⟨k, n', t⟩, rfl, rfl, w0, w1⟩

theorem wf_range {n : Int} (h : (Lit.int .i64 n).wf = true) : -9223372036854775808 ≤ n ∧ n ≤ 9223372036854775807 := by
  simpa [Lit.wf, IntKind.min, IntKind.max, IntKind.signed, IntKind.bits] using h

/-- An argument that is a list of parts. -/
theorem open_parts {H : Type} {enc : TypeId × Value → H} {W : World} {v : Value} {d : DataW H} {p : List MemPlace} (h : DataW.Trod enc Tryd.prog W 0 (fun _ => true) true 22 v d p) (hv : ∃ a len cap, v = .slice a len cap) (hk : Rows.uptoBulk d ≤ 1048576) :
    ∃ ps ao b off cap, v = .slice ao ps.length cap ∧ Arg W ps ao b off := by
  obtain ⟨ao, len, cap, rfl⟩ := hv
  obtain ⟨fuel, hf⟩ := h
  have hf' : DataW.trod enc Tryd.prog W 0 (fun _ => true) true fuel 22 [.slice ao len cap] = some (d, p) := hf
  rcases Go.Deep.open_slice Tryd.underlying22 hf' with ⟨hcs, hx⟩ | ⟨a, len', cap', m, n, D, Pl, hcs, hb, hl, hm, hmm, hx, hel⟩
  · simp at hcs
    obtain ⟨rfl, rfl, rfl⟩ := hcs
    have hnil : ∀ i, nth [] i = ⟨0, 0, ByteArray.empty⟩ := fun i => by simp [nth]
    exact ⟨[], none, 0, 0, 0, rfl, ⟨fun h => by simp at h, fun h => by simp at h, fun i hi => by simp at hi, by simp, by simp [textTo], fun i => by rw [hnil]; simp, fun i => by rw [hnil]; simp⟩⟩
  · simp at hcs
    obtain ⟨rfl, rfl, rfl⟩ := hcs
    have hml : len ≤ m := by rw [hmm]; split <;> omega
    haveI : Inhabited Pt := ⟨⟨0, 0, ByteArray.empty⟩⟩
    obtain ⟨q, hq⟩ := Go.Deep.choose_lt (α := Pt) (n := len) (p := fun i q => W.cell? (a.add (i * 3)) = some (.int .i64 q.k) ∧ W.cell? (a.add (i * 3 + 1)) = some (.int .i64 q.n) ∧ W.cell? (a.add (i * 3 + 2)) = some (.string q.t) ∧ D i = ptData q ∧ (Lit.int .i64 q.k).wf = true ∧ (Lit.int .i64 q.n).wf = true) (fun i hi => by
      obtain ⟨cs', h1, h2⟩ := hel i (by omega)
      rw [Tryd.cells60] at h1
      obtain ⟨_, hlen, hcell⟩ := World.cells?_some h1
      obtain ⟨q, rfl, hd, w0, w1⟩ := open_part h2
      have e0 := hcell 0 (by omega)
      have e1 := hcell 1 (by omega)
      have e2 := hcell 2 (by omega)
      rw [Go.Deep.add_add] at e0 e1 e2
      exact ⟨q, by simpa using e0, by simpa using e1, by simpa using e2, hd, w0, w1⟩)
    have hnth : ∀ i, i < len → nth ((List.range len).map q) i = q i := fun i hi => by simp [nth, List.getD, hi]
    have hlq : ((List.range len).map q).length = len := by simp
    have hbk : len + textTo ((List.range len).map q) len ≤ 1048576 := by
      have h1 := bulk_pts D q len (fun i hi => (hq i hi).2.2.2.1) len (Nat.le_refl _)
      have h2 : d = .slice ((List.range len).map D) ((List.range (m - len)).map fun j => D (len + j)) := by simpa using congrArg Prod.fst hx
      rw [h2] at hk
      simp only [Rows.uptoBulk] at hk
      omega
    obtain ⟨b, off, spot⟩ := a
    have hform : 0 < len → spot = none := fun h0 => by simpa [Addr.add] using World.cell?_spot (hq 0 h0).1
    have hdef : ∀ i, ¬ i < len → nth ((List.range len).map q) i = ⟨0, 0, ByteArray.empty⟩ := fun i hi => by simp [nth, List.getD, hi]
    refine ⟨(List.range len).map q, some ⟨b, off, spot⟩, b, off, cap, by rw [hlq], ⟨fun h => ?_, fun h => ?_, fun i hi => ?_, ?_, ?_, fun i => ?_, fun i => ?_⟩⟩
    · rw [hlq] at h; rw [hform h]
    · rw [hlq] at h
      have := block_lt_of_cell (hq 0 h).1
      simpa [Addr.add] using this
    · rw [hlq] at hi
      obtain rfl := hform (by omega)
      obtain ⟨c0, c1, c2, _⟩ := hq i hi
      rw [hnth i hi]
      rw [add_plain] at c0 c1 c2
      exact ⟨c0, c1, c2⟩
    · rw [hlq]; omega
    · rw [hlq]; omega
    · by_cases hi : i < len
      · rw [hnth i hi]; exact wf_range (hq i hi).2.2.2.2.2
      · rw [hdef i hi]; simp
    · by_cases hi : i < len
      · rw [hnth i hi]; exact wf_range (hq i hi).2.2.2.2.1
      · rw [hdef i hi]; simp
end Go.Proofs.YtdbepogafbagpaaDoor
namespace Go.Proofs.YtdbepogafbagpaaDoor
open Go.ChangeShapes Go.WideShapes Go.ChangeAt Go.RowKit
set_option linter.unusedVariables false

theorem own : ownKnob Tryd.prog.godebug = none := by kernel_rfl
theorem laidOut : laidOutB Tryd.prog = true := by kernel_rfl
theorem Tryd.gFit : Tryd.prog.globalNamed "scribe/scribe.errNoFit" = some 0 := by kernel_rfl
theorem Tryd.gChange : Tryd.prog.globalNamed "scribe/scribe.errNoChange" = some 1 := by kernel_rfl
theorem Tryd.tFit : (Tryd.prog.globals[0]?).map (·.type) = some 55 := by kernel_rfl
theorem Tryd.tChange : (Tryd.prog.globals[1]?).map (·.type) = some 55 := by kernel_rfl
theorem Tryd.tPow : (Tryd.prog.globals[3]?).map (·.type) = some 140 := by kernel_rfl
theorem Tryd.cells140 : Tryd.prog.cellsOf 140 = 20 := by kernel_rfl
theorem Tryd.cells133 : Tryd.prog.cellsOf 133 = 1 := by kernel_rfl
theorem Tryd.cells171 : Tryd.prog.cellsOf 171 = 1 := by kernel_rfl
theorem powData : (Rows.laid_internal_strconv_uint64pow10 : DataW Unit) = Lib.tabData .u64 Lib.pow10Tab := by kernel_rfl

/-- the list that every row of the seat bears -/
abbrev laidList : List (String × DataW Unit) := [("math/bits.deBruijn32tab", Rows.laid_math_bits_deBruijn32tab), ("math/bits.deBruijn64tab", Rows.laid_math_bits_deBruijn64tab), ("internal/strconv.uint64pow10", Rows.laid_internal_strconv_uint64pow10), ("scribe/scribe.errNoChange", Rows.laid_scribe_scribe_errNoChange), ("scribe/scribe.errNoFit", Rows.laid_scribe_scribe_errNoFit)]

theorem star : "*" ++ "errors.errorString" = "*errors.errorString" := by decide
theorem only149 (u : TypeId) (h : Tryd.prog.typeName? 3 u = some "*errors.errorString") : u = 149 :=
  typeName_ptr_named (nm := "errors.errorString") (by rw [star]; kernel_rfl) (by kernel_rfl) (by decide) u (by rw [star]; exact h)

/-- the heap that the program's own start-up lays meets the rows' condition -/
theorem door_met (os : Os) (args : Array Value) : laidMetH Tryd.prog laidList ((World.doorLaid Tryd.prog 400 os).forCall (fun _ _ => 0) ⟨#[], args, []⟩).memory :=
  laidMetH_of_parts3 (fuel := 8) (laidMet_of_run' 8 (by kernel_rfl) (by kernel_rfl)) (by kernel_rfl) (by kernel_rfl)

theorem Tryd.gDeb : Tryd.prog.globalNamed "math/bits.deBruijn64tab" = some 5 := by kernel_rfl
theorem of_laid {W : World} (h : laidMetH Tryd.prog laidList W) : ∃ f c, Env W.heap.size f c W := by
  rw [MakeChecks.laidMetH_plain _ _ _ (by kernel_rfl)] at h
  have h6 : 6 ≤ W.heap.size := by
    obtain ⟨ps, ⟨g', t', cs, fuel, p, q, hg', ht', hvar, _⟩, _⟩ := h.tail
    rcases Nat.lt_or_ge 5 W.heap.size with hl | hl
    · exact hl
    · exfalso
      unfold World.var? at hvar
      rw [Tryd.gDeb] at hvar
      simp [Array.getElem?_eq_none hl] at hvar
  have h3 := h.tail.tail
  have tab : Lib.TabIs Tryd.prog W "internal/strconv.uint64pow10" .u64 Lib.pow10Tab := by
    have h3' := h3
    rw [powData] at h3'
    exact Lib.tabIs_of_head Tryd.gPow Tryd.tPow Tryd.underlying140 Tryd.underlying133 Tryd.cells133 Tryd.cells140 h3'
  have h4 := h3.tail
  obtain ⟨a0, a1, s0, s1, c0, c1, t0, t1, hv0, hv1, hc0, hs0, hz0, hc1, hs1, hz1, hne, hb0, hb1⟩ := laid_sentinels2 h4 Tryd.gChange Tryd.tChange Tryd.gFit Tryd.tFit Tryd.underlying55 only149 Tryd.underlying149 Tryd.underlying171 rfl rfl Tryd.underlying9 Tryd.cells171 Tryd.cells9
  have g1 := World.var?_cell Tryd.gChange hv0 0
  have g0 := World.var?_cell Tryd.gFit hv1 0
  exact ⟨a1, a0, by simpa using g0, by simpa using g1, hne.symm, ⟨c1, t1, hb1⟩, ⟨c0, t0, hb0⟩, tab, block_lt_of_cell hc1, block_lt_of_cell hc0, h6, Nat.le_refl _⟩
end Go.Proofs.YtdbepogafbagpaaDoor
namespace Go.Proofs.YtdbepogafbagpaaDoor
open Go.ChangeShapes Go.WideShapes Go.ChangeAt Go.RowKit
set_option linter.unusedVariables false

/-- An argument that is a list of parts. -/
theorem open_parts_b {H : Type} {enc : TypeId × Value → H} {W : World} {v : Value} {d : DataW H} {p : List MemPlace} (h : DataW.Trod enc Tryd.prog W 0 (fun _ => true) true 22 v d p) (hv : ∃ a len cap, v = .slice a len cap) (hk : Rows.uptoBulk d ≤ 1048576) :
    ∃ ps ao b off cap, v = .slice ao ps.length cap ∧ Arg W ps ao b off ∧ ps.length + textTo ps ps.length ≤ Rows.uptoBulk d := by
  obtain ⟨ao, len, cap, rfl⟩ := hv
  obtain ⟨fuel, hf⟩ := h
  have hf' : DataW.trod enc Tryd.prog W 0 (fun _ => true) true fuel 22 [.slice ao len cap] = some (d, p) := hf
  rcases Go.Deep.open_slice Tryd.underlying22 hf' with ⟨hcs, hx⟩ | ⟨a, len', cap', m, n, D, Pl, hcs, hb, hl, hm, hmm, hx, hel⟩
  · simp at hcs
    obtain ⟨rfl, rfl, rfl⟩ := hcs
    have hnil : ∀ i, nth [] i = ⟨0, 0, ByteArray.empty⟩ := fun i => by simp [nth]
    exact ⟨[], none, 0, 0, 0, rfl, ⟨fun h => by simp at h, fun h => by simp at h, fun i hi => by simp at hi, by simp, by simp [textTo], fun i => by rw [hnil]; simp, fun i => by rw [hnil]; simp⟩, by simp [textTo]⟩
  · simp at hcs
    obtain ⟨rfl, rfl, rfl⟩ := hcs
    have hml : len ≤ m := by rw [hmm]; split <;> omega
    haveI : Inhabited Pt := ⟨⟨0, 0, ByteArray.empty⟩⟩
    obtain ⟨q, hq⟩ := Go.Deep.choose_lt (α := Pt) (n := len) (p := fun i q => W.cell? (a.add (i * 3)) = some (.int .i64 q.k) ∧ W.cell? (a.add (i * 3 + 1)) = some (.int .i64 q.n) ∧ W.cell? (a.add (i * 3 + 2)) = some (.string q.t) ∧ D i = ptData q ∧ (Lit.int .i64 q.k).wf = true ∧ (Lit.int .i64 q.n).wf = true) (fun i hi => by
      obtain ⟨cs', h1, h2⟩ := hel i (by omega)
      rw [Tryd.cells60] at h1
      obtain ⟨_, hlen, hcell⟩ := World.cells?_some h1
      obtain ⟨q, rfl, hd, w0, w1⟩ := open_part h2
      have e0 := hcell 0 (by omega)
      have e1 := hcell 1 (by omega)
      have e2 := hcell 2 (by omega)
      rw [Go.Deep.add_add] at e0 e1 e2
      exact ⟨q, by simpa using e0, by simpa using e1, by simpa using e2, hd, w0, w1⟩)
    have hnth : ∀ i, i < len → nth ((List.range len).map q) i = q i := fun i hi => by simp [nth, List.getD, hi]
    have hlq : ((List.range len).map q).length = len := by simp
    have hbk0 : len + textTo ((List.range len).map q) len ≤ Rows.uptoBulk d := by
      have h1 := bulk_pts D q len (fun i hi => (hq i hi).2.2.2.1) len (Nat.le_refl _)
      have h2 : d = .slice ((List.range len).map D) ((List.range (m - len)).map fun j => D (len + j)) := by simpa using congrArg Prod.fst hx
      rw [h2]
      simp only [Rows.uptoBulk]
      omega
    have hbk : len + textTo ((List.range len).map q) len ≤ 1048576 := by omega
    obtain ⟨b, off, spot⟩ := a
    have hform : 0 < len → spot = none := fun h0 => by simpa [Addr.add] using World.cell?_spot (hq 0 h0).1
    have hdef : ∀ i, ¬ i < len → nth ((List.range len).map q) i = ⟨0, 0, ByteArray.empty⟩ := fun i hi => by simp [nth, List.getD, hi]
    refine ⟨(List.range len).map q, some ⟨b, off, spot⟩, b, off, cap, by rw [hlq], ⟨fun h => ?_, fun h => ?_, fun i hi => ?_, ?_, ?_, fun i => ?_, fun i => ?_⟩, by rw [hlq]; exact hbk0⟩
    · rw [hlq] at h; rw [hform h]
    · rw [hlq] at h
      have := block_lt_of_cell (hq 0 h).1
      simpa [Addr.add] using this
    · rw [hlq] at hi
      obtain rfl := hform (by omega)
      obtain ⟨c0, c1, c2, _⟩ := hq i hi
      rw [hnth i hi]
      rw [add_plain] at c0 c1 c2
      exact ⟨c0, c1, c2⟩
    · rw [hlq]; omega
    · rw [hlq]; omega
    · by_cases hi : i < len
      · rw [hnth i hi]; exact wf_range (hq i hi).2.2.2.2.2
      · rw [hdef i hi]; simp
    · by_cases hi : i < len
      · rw [hnth i hi]; exact wf_range (hq i hi).2.2.2.2.1
      · rw [hdef i hi]; simp
end Go.Proofs.YtdbepogafbagpaaDoor
