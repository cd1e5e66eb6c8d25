import Derived.Test.YtdbepogafbagpaaDoorOpen
namespace Go.Proofs.YtdbepogafbagpaaDoor
open Go.ChangeShapes Go.WideShapes Go.ChangeAt Go.RowKit
set_option linter.unusedVariables false

theorem own : ownKnob Tryd.prog.godebug = none := by kernel_rfl
theorem laidOut : laidOutB Tryd.prog = true := by kernel_rfl
theorem Tryd.gFit : Tryd.prog.globalNamed "scribe/scribe.errNoFit" = some 0 := by kernel_rfl
theorem Tryd.gChange : Tryd.prog.globalNamed "scribe/scribe.errNoChange" = some 1 := by kernel_rfl
theorem Tryd.tFit : (Tryd.prog.globals[0]?).map (·.type) = some 55 := by kernel_rfl
theorem Tryd.tChange : (Tryd.prog.globals[1]?).map (·.type) = some 55 := by kernel_rfl
theorem Tryd.tPow : (Tryd.prog.globals[3]?).map (·.type) = some 140 := by kernel_rfl
theorem Tryd.cells140 : Tryd.prog.cellsOf 140 = 20 := by kernel_rfl
theorem Tryd.cells133 : Tryd.prog.cellsOf 133 = 1 := by kernel_rfl
theorem Tryd.cells171 : Tryd.prog.cellsOf 171 = 1 := by kernel_rfl
theorem powData : (Rows.laid_internal_strconv_uint64pow10 : DataW Unit) = Lib.tabData .u64 Lib.pow10Tab := by kernel_rfl

/-- the list that every row of the seat bears -/
abbrev laidList : List (String × DataW Unit) := [("math/bits.deBruijn32tab", Rows.laid_math_bits_deBruijn32tab), ("math/bits.deBruijn64tab", Rows.laid_math_bits_deBruijn64tab), ("internal/strconv.uint64pow10", Rows.laid_internal_strconv_uint64pow10), ("scribe/scribe.errNoChange", Rows.laid_scribe_scribe_errNoChange), ("scribe/scribe.errNoFit", Rows.laid_scribe_scribe_errNoFit)]

theorem star : "*" ++ "errors.errorString" = "*errors.errorString" := by decide
theorem only149 (u : TypeId) (h : Tryd.prog.typeName? 3 u = some "*errors.errorString") : u = 149 :=
  typeName_ptr_named (nm := "errors.errorString") (by rw [star]; kernel_rfl) (by kernel_rfl) (by decide) u (by rw [star]; exact h)

/-- the heap that the program's own start-up lays meets the rows' condition -/
theorem door_met (os : Os) (args : Array Value) : laidMetH Tryd.prog laidList ((World.doorLaid Tryd.prog 400 os).forCall (fun _ _ => 0) ⟨#[], args, []⟩).memory :=
  laidMetH_of_parts3 (fuel := 8) (laidMet_of_run' 8 (by kernel_rfl) (by kernel_rfl)) (by kernel_rfl) (by kernel_rfl)

theorem Tryd.gDeb : Tryd.prog.globalNamed "math/bits.deBruijn64tab" = some 5 := by kernel_rfl
theorem of_laid {W : World} (h : laidMetH Tryd.prog laidList W) : ∃ f c, Env W.heap.size f c W := by
  rw [MakeChecks.laidMetH_plain _ _ _ (by kernel_rfl)] at h
  have h6 : 6 ≤ W.heap.size := by
    obtain ⟨ps, ⟨g', t', cs, fuel, p, q, hg', ht', hvar, _⟩, _⟩ := h.tail
    rcases Nat.lt_or_ge 5 W.heap.size with hl | hl
    · exact hl
    · exfalso
      unfold World.var? at hvar
      rw [Tryd.gDeb] at hvar
      simp [Array.getElem?_eq_none hl] at hvar
  have h3 := h.tail.tail
  have tab : Lib.TabIs Tryd.prog W "internal/strconv.uint64pow10" .u64 Lib.pow10Tab := by
    have h3' := h3
    rw [powData] at h3'
    exact Lib.tabIs_of_head Tryd.gPow Tryd.tPow Tryd.underlying140 Tryd.underlying133 Tryd.cells133 Tryd.cells140 h3'
  have h4 := h3.tail
  obtain ⟨a0, a1, s0, s1, c0, c1, t0, t1, hv0, hv1, hc0, hs0, hz0, hc1, hs1, hz1, hne, hb0, hb1⟩ := laid_sentinels2 h4 Tryd.gChange Tryd.tChange Tryd.gFit Tryd.tFit Tryd.underlying55 only149 Tryd.underlying149 Tryd.underlying171 rfl rfl Tryd.underlying9 Tryd.cells171 Tryd.cells9
  have g1 := World.var?_cell Tryd.gChange hv0 0
  have g0 := World.var?_cell Tryd.gFit hv1 0
  exact ⟨a1, a0, by simpa using g0, by simpa using g1, hne.symm, ⟨c1, t1, hb1⟩, ⟨c0, t0, hb0⟩, tab, block_lt_of_cell hc1, block_lt_of_cell hc0, h6, Nat.le_refl _⟩
end Go.Proofs.YtdbepogafbagpaaDoor
