import Derived.Test.YtdlolnahbgecjaaDoorRows
import Derived.Test.YtdlolnahbgecjaaDoorFitsWalk
import Derived.ProofKit
import Derived.OpenShut
import Derived.Deep.Slices
import Derived.Deep.Strs
import Derived.Stop.LaidTwo
import Derived.Stop.Joined
import Derived.LaidMore
import Derived.Lib.LaidTab
import Derived.Test.YtdlolnahbgecjaaDoorBase
namespace Go.Proofs.YtdlolnahbgecjaaDoor
open Go.ChangeShapes Go.WideShapes Go.ChangeAt Go.RowKit
set_option linter.unusedVariables false

theorem bulk_append {H : Type} (l r : List (DataW H)) : Rows.uptoBulkAll (l ++ r) = Rows.uptoBulkAll l + Rows.uptoBulkAll r := by
  induction l with
  | nil => simp [Rows.uptoBulkAll]
  | cons x l ih => simp only [List.cons_append, Rows.uptoBulkAll, ih]; omega

def ptData {H : Type} (q : Pt) : DataW H := .agg [.lit (.int .i64 q.k), .lit (.int .i64 q.n), .lit (.string q.t.data.toList)]
theorem bulk_pt {H : Type} (q : Pt) : Rows.uptoBulk (ptData (H := H) q) = q.t.size + 4 := by
  simp only [ptData, Rows.uptoBulk, Rows.uptoBulkAll, Array.length_toList]
  show _ = q.t.data.size + 4
  omega
theorem bulk_pts {H : Type} (D : Nat → DataW H) (q : Nat → Pt) (len : Nat) (h : ∀ i, i < len → D i = ptData (q i)) : ∀ k, k ≤ len → k + textTo ((List.range len).map q) k ≤ Rows.uptoBulkAll ((List.range k).map D) := by
  intro k
  induction k with
  | zero => intro _; simp [textTo]
  | succ k ih =>
    intro hk
    have := ih (by omega)
    rw [List.range_succ, List.map_append, bulk_append]
    have e : nth ((List.range len).map q) k = q k := by simp [nth, List.getD, show k < len by omega]
    simp only [textTo, e, List.map_cons, List.map_nil, Rows.uptoBulkAll, h k (by omega), bulk_pt]
    omega

theorem Tryd.cells60 : Tryd.prog.cellsOf 60 = 3 := by kernel_rfl
theorem Tryd.cells3 : Tryd.prog.cellsOf 3 = 1 := by kernel_rfl
theorem Tryd.cells9 : Tryd.prog.cellsOf 9 = 1 := by kernel_rfl

theorem three_of {α : Type} {l : List α} (h : l.length = 3) : ∃ a b c, l = [a, b, c] := by
  cases l with
  | nil => simp at h
  | cons a l =>
    cases l with
    | nil => simp at h
    | cons b l =>
      cases l with
      | nil => simp at h
      | cons c l =>
        cases l with
        | nil => exact ⟨a, b, c, rfl⟩
        | cons d l => simp at h

theorem open_part {H : Type} {enc : TypeId × Value → H} {W : World} {spare : Nat → Bool} {held : Bool} {n : Nat} {cs : List Value} {x : DataW H × List MemPlace} (h : DataW.trod enc Tryd.prog W 0 spare held n 60 cs = some x) :
    ∃ q : Pt, cs = [.int .i64 q.k, .int .i64 q.n, .string q.t] ∧ x.1 = ptData q ∧ (Lit.int .i64 q.k).wf = true ∧ (Lit.int .i64 q.n).wf = true := by
  obtain ⟨y0, y1, y2, m, rfl, hl, h0, h1, h2⟩ := Go.Deep.trod_struct3 Tryd.underlying60 h
  rw [Tryd.cells60] at hl
  obtain ⟨c0, c1, c2, rfl⟩ := three_of hl
  simp only [Tryd.cells3, Tryd.cells9, List.drop_zero, List.drop_succ_cons, List.take_succ_cons, List.take_zero] at h0 h1 h2
  obtain ⟨k, e0, rfl, w0⟩ := DataW.trod_int Tryd.underlying3 h0
  obtain ⟨n', e1, rfl, w1⟩ := DataW.trod_int Tryd.underlying3 h1
  obtain ⟨t, e2, rfl, w2⟩ := DataW.trod_string Tryd.underlying9 h2
  simp at e0 e1 e2
  subst e0 e1 e2
  exact ⟨⟨k, n', t⟩, rfl, rfl, w0, w1⟩

theorem wf_range {n : Int} (h : (Lit.int .i64 n).wf = true) : -9223372036854775808 ≤ n ∧ n ≤ 9223372036854775807 := by
  simpa [Lit.wf, IntKind.min, IntKind.max, IntKind.signed, IntKind.bits] using h

/-- An argument that is a list of parts. -/
theorem open_parts {H : Type} {enc : TypeId × Value → H} {W : World} {v : Value} {d : DataW H} {p : List MemPlace} (h : DataW.Trod enc Tryd.prog W 0 (fun _ => true) true 22 v d p) (hv : ∃ a len cap, v = .slice a len cap) (hk : Rows.uptoBulk d ≤ 1048576) :
    ∃ ps ao b off cap, v = .slice ao ps.length cap ∧ Arg W ps ao b off := by
  obtain ⟨ao, len, cap, rfl⟩ := hv
  obtain ⟨fuel, hf⟩ := h
  have hf' : DataW.trod enc Tryd.prog W 0 (fun _ => true) true fuel 22 [.slice ao len cap] = some (d, p) := hf
  rcases Go.Deep.open_slice Tryd.underlying22 hf' with ⟨hcs, hx⟩ | ⟨a, len', cap', m, n, D, Pl, hcs, hb, hl, hm, hmm, hx, hel⟩
  · simp at hcs
    obtain ⟨rfl, rfl, rfl⟩ := hcs
    have hnil : ∀ i, nth [] i = ⟨0, 0, ByteArray.empty⟩ := fun i => by simp [nth]
    exact ⟨[], none, 0, 0, 0, rfl, ⟨fun h => by simp at h, fun h => by simp at h, fun i hi => by simp at hi, by simp, by simp [textTo], fun i => by rw [hnil]; simp, fun i => by rw [hnil]; simp⟩⟩
  · simp at hcs
    obtain ⟨rfl, rfl, rfl⟩ := hcs
    have hml : len ≤ m := by rw [hmm]; split <;> omega
    haveI : Inhabited Pt := ⟨⟨0, 0, ByteArray.empty⟩⟩
    obtain ⟨q, hq⟩ := Go.Deep.choose_lt (α := Pt) (n := len) (p := fun i q => W.cell? (a.add (i * 3)) = some (.int .i64 q.k) ∧ W.cell? (a.add (i * 3 + 1)) = some (.int .i64 q.n) ∧ W.cell? (a.add (i * 3 + 2)) = some (.string q.t) ∧ D i = ptData q ∧ (Lit.int .i64 q.k).wf = true ∧ (Lit.int .i64 q.n).wf = true) (fun i hi => by
      obtain ⟨cs', h1, h2⟩ := hel i (by omega)
      rw [Tryd.cells60] at h1
      obtain ⟨_, hlen, hcell⟩ := World.cells?_some h1
      obtain ⟨q, rfl, hd, w0, w1⟩ := open_part h2
      have e0 := hcell 0 (by omega)
      have e1 := hcell 1 (by omega)
      have e2 := hcell 2 (by omega)
      rw [Go.Deep.add_add] at e0 e1 e2
      exact ⟨q, by simpa using e0, by simpa using e1, by simpa using e2, hd, w0, w1⟩)
    have hnth : ∀ i, i < len → nth ((List.range len).map q) i = q i := fun i hi => by simp [nth, List.getD, hi]
    have hlq : ((List.range len).map q).length = len := by simp
    have hbk : len + textTo ((List.range len).map q) len ≤ 1048576 := by
      have h1 := bulk_pts D q len (fun i hi => (hq i hi).2.2.2.1) len (Nat.le_refl _)
      have h2 : d = .slice ((List.range len).map D) ((List.range (m - len)).map fun j => D (len + j)) := by simpa using congrArg Prod.fst hx
      rw [h2] at hk
      simp only [Rows.uptoBulk] at hk
      omega
    obtain ⟨b, off, spot⟩ := a
    have hform : 0 < len → spot = none := fun h0 => by simpa [Addr.add] using World.cell?_spot (hq 0 h0).1
    have hdef : ∀ i, ¬ i < len → nth ((List.range len).map q) i = ⟨0, 0, ByteArray.empty⟩ := fun i hi => by simp [nth, List.getD, hi]
    refine ⟨(List.range len).map q, some ⟨b, off, spot⟩, b, off, cap, by rw [hlq], ⟨fun h => ?_, fun h => ?_, fun i hi => ?_, ?_, ?_, fun i => ?_, fun i => ?_⟩⟩
    · rw [hlq] at h; rw [hform h]
    · rw [hlq] at h
      have := block_lt_of_cell (hq 0 h).1
      simpa [Addr.add] using this
    · rw [hlq] at hi
      obtain rfl := hform (by omega)
      obtain ⟨c0, c1, c2, _⟩ := hq i hi
      rw [hnth i hi]
      rw [add_plain] at c0 c1 c2
      exact ⟨c0, c1, c2⟩
    · rw [hlq]; omega
    · rw [hlq]; omega
    · by_cases hi : i < len
      · rw [hnth i hi]; exact wf_range (hq i hi).2.2.2.2.2
      · rw [hdef i hi]; simp
    · by_cases hi : i < len
      · rw [hnth i hi]; exact wf_range (hq i hi).2.2.2.2.1
      · rw [hdef i hi]; simp
end Go.Proofs.YtdlolnahbgecjaaDoor
namespace Go.Proofs.YtdlolnahbgecjaaDoor
open Go.RowKit Go.ChangeShapes

theorem laid_skip {P : Program} {x y : String × DataW Unit} {r : List (String × DataW Unit)} {w : World} (h : laidMet P (x :: y :: r) w) : laidMet P (x :: r) w := by
  obtain ⟨ps, hv, hnd, hrows⟩ := h
  obtain ⟨n, d⟩ := x
  obtain ⟨m, d'⟩ := y
  obtain ⟨g, t, cs, fuel, p, q, h1, h2, h3, h4, hq, rfl⟩ := hv
  obtain ⟨g', t', cs', fuel', p', q', _, _, _, _, hq', rfl⟩ := hq
  exact ⟨_, ⟨g, t, cs, fuel, p, q', h1, h2, h3, h4, hq', rfl⟩, List.Nodup.sublist ((List.sublist_append_right _ q').append_left _) hnd, fun b off hm => hrows b off (((List.sublist_append_right _ q').append_left _).subset hm)⟩
theorem laid_two {P : Program} {x y : String × DataW Unit} {w : World} : ∀ (r : List (String × DataW Unit)), y ∈ r → laidMet P (x :: r) w → ∃ r', laidMet P (x :: y :: r') w
  | [], hy, _ => by cases hy
  | z :: r, hy, h => by
    rcases List.mem_cons.1 hy with rfl | hy
    · exact ⟨r, h⟩
    · exact laid_two r hy (laid_skip h)

/-- a sentinel on the list -/
def senRow (nm : String) (x : String × List UInt8) : String × DataW Unit := (x.1, .iface nm (.ptr (.agg [.lit (.string x.2)])))

/-- the sentinels of a list are different pointers -/
theorem sents {P : Program} {nm : String} {W : World} {ti tp te ts : TypeId} {ms : Array (String × TypeId)} {f : Field} : ∀ (l : List (String × List UInt8)),
    (∀ x ∈ l, ∃ g, P.globalNamed x.1 = some g ∧ (P.globals[g]?).map (·.type) = some ti) → laidMet P (l.map (senRow nm)) W →
    P.underlying ti = some (.interface ms) → (∀ u, P.typeName? 3 u = some nm → u = tp) →
    P.underlying tp = some (.pointer te) → P.underlying te = some (.struct #[f]) → f.type = ts → f.offset = 0 → P.underlying ts = some .string → P.cellsOf te = 1 → P.cellsOf ts = 1 →
    ∃ A : List Addr, A.length = l.length ∧ A.Nodup ∧ ∀ (i : Nat) x, l[i]? = some x → ∃ a, A[i]? = some a ∧ W.var? P x.1 = some #[.iface tp (.pointer (some a))] ∧ (∃ c t, W.heap[a.block]? = some (.cells c t (0, 0))) ∧ a.block < W.heap.size
  | [], _, _, _, _, _, _, _, _, _, _, _ => ⟨[], rfl, List.nodup_nil, fun i x h => by simp at h⟩
  | x :: l, hg, h, hi, hrow, hp, he, hft, hfo, hs, hc, hcs => by
    obtain ⟨A, h1, h2, h3⟩ := sents l (fun y hy => hg y (List.mem_cons_of_mem _ hy)) h.tail hi hrow hp he hft hfo hs hc hcs
    obtain ⟨g, hgx, htx⟩ := hg x List.mem_cons_self
    have hx : ∃ a, W.var? P x.1 = some #[.iface tp (.pointer (some a))] ∧ (∃ c t, W.heap[a.block]? = some (.cells c t (0, 0))) ∧ a.block < W.heap.size := by
      obtain ⟨ps, ⟨g0, t0, cs0, f0, p0, q0, hg0, ht0, hv0, hd0, _, e0⟩, _, hrows⟩ := h
      obtain rfl := Option.some.inj (hgx.symm.trans hg0)
      obtain rfl := Option.some.inj (htx.symm.trans ht0)
      subst e0
      obtain ⟨l0⟩ := cs0
      have ok0 : ∀ u v, l0 = [.iface u v] → Value.okWide P W .any 0 u v := fun u v e => by
        subst e
        exact (hrows g 0 (by simp [MemPlace.row])).2 u v (by simpa using World.var?_cell hg0 hv0 0)
      obtain ⟨a0, s0, rfl, hc0, hs0, hz0, rfl⟩ := errorString_of_trod hi hrow hp he hft hfo hs hc hcs hd0 ok0
      obtain ⟨c0, t0, hb0⟩ := (hrows a0.block a0.off (by simp [MemPlace.row])).1
      exact ⟨a0, hv0, ⟨c0, t0, hb0⟩, block_lt_of_cell hc0⟩
    obtain ⟨a, hva, hba, hla⟩ := hx
    have hne : a ∉ A := by
      intro hm
      obtain ⟨i, hi', e⟩ := List.getElem_of_mem hm
      have hil : i < l.length := by omega
      obtain ⟨b, hb, hvb, _⟩ := h3 i l[i] (List.getElem?_eq_getElem hil)
      obtain rfl : a = b := by
        rw [List.getElem?_eq_getElem hi', e] at hb
        exact Option.some.inj hb
      obtain ⟨r', h'⟩ := laid_two (y := senRow nm l[i]) _ (List.mem_map.2 ⟨_, List.getElem_mem hil, rfl⟩) h
      obtain ⟨g', hgy, hty⟩ := hg l[i] (List.mem_cons_of_mem _ (List.getElem_mem hil))
      obtain ⟨a0, a1, s0, s1, c0, c1, t0, t1, hv0, hv1, _, _, _, _, _, _, hne, _⟩ := laid_sentinels2 h' hgx htx hgy hty hi hrow hp he hft hfo hs hc hcs
      have e0 : a0 = a := by have := hv0.symm.trans hva; simpa using this
      have e1 : a1 = a := by have := hv1.symm.trans hvb; simpa using this
      exact hne (e0.trans e1.symm)
    refine ⟨a :: A, by simp [h1], List.nodup_cons.2 ⟨hne, h2⟩, fun i y hy => ?_⟩
    cases i with
    | zero =>
      simp at hy
      subst hy
      exact ⟨a, rfl, hva, hba, hla⟩
    | succ i =>
      simp at hy ⊢
      exact h3 i y hy
end Go.Proofs.YtdlolnahbgecjaaDoor
namespace Go.Proofs.YtdlolnahbgecjaaDoor
open Go.ChangeShapes Go.WideShapes Go.ChangeAt Go.RowKit
set_option linter.unusedVariables false

theorem own : ownKnob Tryd.prog.godebug = none := by kernel_rfl
theorem laidOut : laidOutB Tryd.prog = true := by kernel_rfl
theorem Tryd.gFit : Tryd.prog.globalNamed "scribe/scribe.errNoFit" = some 0 := by kernel_rfl
theorem Tryd.gChange : Tryd.prog.globalNamed "scribe/scribe.errNoChange" = some 1 := by kernel_rfl
theorem Tryd.tPow : (Tryd.prog.globals[11]?).map (·.type) = some 140 := by kernel_rfl
theorem Tryd.cells140 : Tryd.prog.cellsOf 140 = 20 := by kernel_rfl
theorem Tryd.cells133 : Tryd.prog.cellsOf 133 = 1 := by kernel_rfl
theorem Tryd.cells171 : Tryd.prog.cellsOf 171 = 1 := by kernel_rfl
theorem powData : (Rows.laid_internal_strconv_uint64pow10 : DataW Unit) = Lib.tabData .u64 Lib.pow10Tab := by kernel_rfl

/-- the list that every row of the seat bears -/
abbrev laidList : List (String × DataW Unit) := [("math/bits.deBruijn32tab", Rows.laid_math_bits_deBruijn32tab), ("math/bits.deBruijn64tab", Rows.laid_math_bits_deBruijn64tab), ("internal/strconv.uint64pow10", Rows.laid_internal_strconv_uint64pow10), ("scribe/scribe.errNoChange", Rows.laid_scribe_scribe_errNoChange), ("scribe/scribe.errNoFit", Rows.laid_scribe_scribe_errNoFit), ("scribe/scribe.errNoName", Rows.laid_scribe_scribe_errNoName), ("scribe/scribe.errNoRevision", Rows.laid_scribe_scribe_errNoRevision), ("scribe/scribe.errOver", Rows.laid_scribe_scribe_errOver), ("scribe/scribe.errTwice", Rows.laid_scribe_scribe_errTwice), ("scribe/scribe.errNone", Rows.laid_scribe_scribe_errNone), ("scribe/scribe.errGap", Rows.laid_scribe_scribe_errGap), ("scribe/scribe.errMany", Rows.laid_scribe_scribe_errMany), ("scribe/scribe.errFull", Rows.laid_scribe_scribe_errFull)]

theorem star : "*" ++ "errors.errorString" = "*errors.errorString" := by decide
theorem only149 (u : TypeId) (h : Tryd.prog.typeName? 3 u = some "*errors.errorString") : u = 149 :=
  typeName_ptr_named (nm := "errors.errorString") (by rw [star]; kernel_rfl) (by kernel_rfl) (by decide) u (by rw [star]; exact h)

theorem Tryd.gName : Tryd.prog.globalNamed "scribe/scribe.errNoName" = some 2 := by kernel_rfl
theorem Tryd.gRevision : Tryd.prog.globalNamed "scribe/scribe.errNoRevision" = some 3 := by kernel_rfl
theorem Tryd.gOver : Tryd.prog.globalNamed "scribe/scribe.errOver" = some 4 := by kernel_rfl
theorem Tryd.gTwice : Tryd.prog.globalNamed "scribe/scribe.errTwice" = some 5 := by kernel_rfl
theorem Tryd.gNone : Tryd.prog.globalNamed "scribe/scribe.errNone" = some 6 := by kernel_rfl
theorem Tryd.gGap : Tryd.prog.globalNamed "scribe/scribe.errGap" = some 7 := by kernel_rfl
theorem Tryd.gMany : Tryd.prog.globalNamed "scribe/scribe.errMany" = some 8 := by kernel_rfl
theorem Tryd.gFull : Tryd.prog.globalNamed "scribe/scribe.errFull" = some 9 := by kernel_rfl
/-- the sentinels, in the order of that list, with their texts -/
abbrev senList : List (String × List UInt8) := [("scribe/scribe.errNoChange", [116, 104, 105, 115, 32, 105, 115, 32, 110, 111, 32, 99, 104, 97, 110, 103, 101]), ("scribe/scribe.errNoFit", [116, 104, 105, 115, 32, 99, 104, 97, 110, 103, 101, 32, 100, 111, 101, 115, 32, 110, 111, 116, 32, 102, 105, 116]), ("scribe/scribe.errNoName", [116, 104, 105, 115, 32, 105, 115, 32, 110, 111, 32, 110, 97, 109, 101]), ("scribe/scribe.errNoRevision", [116, 104, 105, 115, 32, 105, 115, 32, 110, 111, 32, 114, 101, 118, 105, 115, 105, 111, 110]), ("scribe/scribe.errOver", [116, 104, 105, 115, 32, 105, 115, 32, 111, 118, 101, 114]), ("scribe/scribe.errTwice", [116, 104, 101, 114, 101, 32, 105, 115, 32, 111, 110, 101, 32, 97, 108, 114, 101, 97, 100, 121]), ("scribe/scribe.errNone", [116, 104, 101, 114, 101, 32, 105, 115, 32, 110, 111, 110, 101]), ("scribe/scribe.errGap", [116, 104, 105, 115, 32, 105, 115, 32, 110, 111, 116, 32, 116, 104, 101, 32, 110, 101, 120, 116]), ("scribe/scribe.errMany", [116, 104, 101, 114, 101, 32, 97, 114, 101, 32, 116, 111, 111, 32, 109, 97, 110, 121]), ("scribe/scribe.errFull", [116, 104, 101, 32, 102, 105, 108, 101, 115, 32, 97, 114, 101, 32, 102, 117, 108, 108])]
theorem Tryd.gSen : ∀ x ∈ senList, ∃ g, Tryd.prog.globalNamed x.1 = some g ∧ (Tryd.prog.globals[g]?).map (·.type) = some 55 := by
  intro x hx
  simp only [senList, List.mem_cons, List.not_mem_nil, or_false] at hx
  rcases hx with rfl | rfl | rfl | rfl | rfl | rfl | rfl | rfl | rfl | rfl
  · exact ⟨1, Tryd.gChange, by kernel_rfl⟩
  · exact ⟨0, Tryd.gFit, by kernel_rfl⟩
  · exact ⟨2, Tryd.gName, by kernel_rfl⟩
  · exact ⟨3, Tryd.gRevision, by kernel_rfl⟩
  · exact ⟨4, Tryd.gOver, by kernel_rfl⟩
  · exact ⟨5, Tryd.gTwice, by kernel_rfl⟩
  · exact ⟨6, Tryd.gNone, by kernel_rfl⟩
  · exact ⟨7, Tryd.gGap, by kernel_rfl⟩
  · exact ⟨8, Tryd.gMany, by kernel_rfl⟩
  · exact ⟨9, Tryd.gFull, by kernel_rfl⟩

/-- the heap that the program's own start-up lays meets the rows' condition -/
theorem door_met (os : Os) (args : Array Value) : laidMetH Tryd.prog laidList ((World.doorLaid Tryd.prog 400 os).forCall (fun _ _ => 0) ⟨#[], args, []⟩).memory :=
  laidMetH_of_parts3 (fuel := 8) (laidMet_of_run' 8 (by kernel_rfl) (by kernel_rfl)) (by kernel_rfl) (by kernel_rfl)

theorem Tryd.gDeb : Tryd.prog.globalNamed "math/bits.deBruijn64tab" = some 13 := by kernel_rfl
theorem nodup_inj {A : List Addr} (h : A.Nodup) {i j : Nat} (hi : i < A.length) (hj : j < A.length) (e : A[i] = A[j]) : i = j := by
  have hp := List.pairwise_iff_getElem.1 h
  rcases Nat.lt_trichotomy i j with hij | hij | hij
  · exact absurd e (hp i j hi hj hij)
  · exact hij
  · exact absurd e.symm (hp j i hj hi hij)
theorem of_laid {W : World} (h : laidMetH Tryd.prog laidList W) : ∃ f c, Env W.heap.size f c W := by
  rw [MakeChecks.laidMetH_plain _ _ _ (by kernel_rfl)] at h
  have h6 : 14 ≤ W.heap.size := by
    obtain ⟨ps, ⟨g', t', cs, fuel, p, q, hg', ht', hvar, _⟩, _⟩ := h.tail
    rcases Nat.lt_or_ge 13 W.heap.size with hl | hl
    · exact hl
    · exfalso
      unfold World.var? at hvar
      rw [Tryd.gDeb] at hvar
      simp [Array.getElem?_eq_none hl] at hvar
  have h3 := h.tail.tail
  have tab : Lib.TabIs Tryd.prog W "internal/strconv.uint64pow10" .u64 Lib.pow10Tab := by
    have h3' := h3
    rw [powData] at h3'
    exact Lib.tabIs_of_head Tryd.gPow Tryd.tPow Tryd.underlying140 Tryd.underlying133 Tryd.cells133 Tryd.cells140 h3'
  have h4 := h3.tail
  obtain ⟨A, hlen, hnd, hA⟩ := sents senList (fun x hx => Tryd.gSen x hx) h4 Tryd.underlying55 only149 Tryd.underlying149 Tryd.underlying171 rfl rfl Tryd.underlying9 Tryd.cells171 Tryd.cells9
  have at' : ∀ g, g < senK → ∃ (i : Nat) (x : String × List UInt8) (a : Addr), senList[i]? = some x ∧ Tryd.prog.globalNamed x.1 = some g ∧ A[i]? = some a ∧ Sen W.heap.size W g a := by
    intro g hg
    have hi : ∃ (i : Nat) (x : String × List UInt8), senList[i]? = some x ∧ Tryd.prog.globalNamed x.1 = some g := by
      match g, hg with
      | 0, _ => exact ⟨1, _, rfl, Tryd.gFit⟩
      | 1, _ => exact ⟨0, _, rfl, Tryd.gChange⟩
      | 2, _ => exact ⟨2, _, rfl, Tryd.gName⟩
      | 3, _ => exact ⟨3, _, rfl, Tryd.gRevision⟩
      | 4, _ => exact ⟨4, _, rfl, Tryd.gOver⟩
      | 5, _ => exact ⟨5, _, rfl, Tryd.gTwice⟩
      | 6, _ => exact ⟨6, _, rfl, Tryd.gNone⟩
      | 7, _ => exact ⟨7, _, rfl, Tryd.gGap⟩
      | 8, _ => exact ⟨8, _, rfl, Tryd.gMany⟩
      | 9, _ => exact ⟨9, _, rfl, Tryd.gFull⟩
    obtain ⟨i, x, hx, hgx⟩ := hi
    obtain ⟨a, ha, hv, ⟨cs, t, hr⟩, hlt⟩ := hA i x hx
    have g0 := World.var?_cell hgx hv 0
    exact ⟨i, x, a, hx, hgx, ha, by simpa using g0, ⟨cs, t, hr⟩, hlt⟩
  obtain ⟨_, _, f, _, _, _, sf⟩ := at' 0 (by decide)
  obtain ⟨_, _, c, _, _, _, sc⟩ := at' 1 (by decide)
  have dis : ∀ g h a b, g < senK → h < senK → g ≠ h → Sen W.heap.size W g a → Sen W.heap.size W h b → a ≠ b := by
    intro g k a b hg hk hne sa sb
    obtain ⟨i, x, a', hx, hgx, ha, sa'⟩ := at' g hg
    obtain ⟨j, y, b', hy, hgy, hb, sb'⟩ := at' k hk
    have ea : a = a' := by
      have := sa.1.symm.trans sa'.1
      simpa using this
    have eb : b = b' := by
      have := sb.1.symm.trans sb'.1
      simpa using this
    subst ea eb
    rintro rfl
    have hij : i = j := by
      have h1 := List.getElem?_eq_some_iff.1 ha
      have h2 := List.getElem?_eq_some_iff.1 hb
      obtain ⟨l1, e1⟩ := h1
      obtain ⟨l2, e2⟩ := h2
      exact nodup_inj hnd l1 l2 (e1.trans e2.symm)
    subst hij
    rw [hx] at hy
    obtain rfl := Option.some.inj hy
    rw [hgx] at hgy
    exact hne (Option.some.inj hgy)
  exact ⟨f, c, sf.1, sc.1, dis 0 1 f c (by decide) (by decide) (by decide) sf sc, sf.2.1, sc.2.1, tab, sf.2.2, sc.2.2, h6, Nat.le_refl _, fun g hg => by { obtain ⟨_, _, a, _, _, _, s⟩ := at' g hg; exact ⟨a, s⟩ }, dis⟩
end Go.Proofs.YtdlolnahbgecjaaDoor
namespace Go.Proofs.YtdlolnahbgecjaaDoor
open Go.ChangeShapes Go.WideShapes Go.ChangeAt Go.RowKit
set_option linter.unusedVariables false

/-- An argument that is a list of parts. -/
theorem open_parts_b {H : Type} {enc : TypeId × Value → H} {W : World} {v : Value} {d : DataW H} {p : List MemPlace} (h : DataW.Trod enc Tryd.prog W 0 (fun _ => true) true 22 v d p) (hv : ∃ a len cap, v = .slice a len cap) (hk : Rows.uptoBulk d ≤ 1048576) :
    ∃ ps ao b off cap, v = .slice ao ps.length cap ∧ Arg W ps ao b off ∧ ps.length + textTo ps ps.length ≤ Rows.uptoBulk d := by
  obtain ⟨ao, len, cap, rfl⟩ := hv
  obtain ⟨fuel, hf⟩ := h
  have hf' : DataW.trod enc Tryd.prog W 0 (fun _ => true) true fuel 22 [.slice ao len cap] = some (d, p) := hf
  rcases Go.Deep.open_slice Tryd.underlying22 hf' with ⟨hcs, hx⟩ | ⟨a, len', cap', m, n, D, Pl, hcs, hb, hl, hm, hmm, hx, hel⟩
  · simp at hcs
    obtain ⟨rfl, rfl, rfl⟩ := hcs
    have hnil : ∀ i, nth [] i = ⟨0, 0, ByteArray.empty⟩ := fun i => by simp [nth]
    exact ⟨[], none, 0, 0, 0, rfl, ⟨fun h => by simp at h, fun h => by simp at h, fun i hi => by simp at hi, by simp, by simp [textTo], fun i => by rw [hnil]; simp, fun i => by rw [hnil]; simp⟩, by simp [textTo]⟩
  · simp at hcs
    obtain ⟨rfl, rfl, rfl⟩ := hcs
    have hml : len ≤ m := by rw [hmm]; split <;> omega
    haveI : Inhabited Pt := ⟨⟨0, 0, ByteArray.empty⟩⟩
    obtain ⟨q, hq⟩ := Go.Deep.choose_lt (α := Pt) (n := len) (p := fun i q => W.cell? (a.add (i * 3)) = some (.int .i64 q.k) ∧ W.cell? (a.add (i * 3 + 1)) = some (.int .i64 q.n) ∧ W.cell? (a.add (i * 3 + 2)) = some (.string q.t) ∧ D i = ptData q ∧ (Lit.int .i64 q.k).wf = true ∧ (Lit.int .i64 q.n).wf = true) (fun i hi => by
      obtain ⟨cs', h1, h2⟩ := hel i (by omega)
      rw [Tryd.cells60] at h1
      obtain ⟨_, hlen, hcell⟩ := World.cells?_some h1
      obtain ⟨q, rfl, hd, w0, w1⟩ := open_part h2
      have e0 := hcell 0 (by omega)
      have e1 := hcell 1 (by omega)
      have e2 := hcell 2 (by omega)
      rw [Go.Deep.add_add] at e0 e1 e2
      exact ⟨q, by simpa using e0, by simpa using e1, by simpa using e2, hd, w0, w1⟩)
    have hnth : ∀ i, i < len → nth ((List.range len).map q) i = q i := fun i hi => by simp [nth, List.getD, hi]
    have hlq : ((List.range len).map q).length = len := by simp
    have hbk0 : len + textTo ((List.range len).map q) len ≤ Rows.uptoBulk d := by
      have h1 := bulk_pts D q len (fun i hi => (hq i hi).2.2.2.1) len (Nat.le_refl _)
      have h2 : d = .slice ((List.range len).map D) ((List.range (m - len)).map fun j => D (len + j)) := by simpa using congrArg Prod.fst hx
      rw [h2]
      simp only [Rows.uptoBulk]
      omega
    have hbk : len + textTo ((List.range len).map q) len ≤ 1048576 := by omega
    obtain ⟨b, off, spot⟩ := a
    have hform : 0 < len → spot = none := fun h0 => by simpa [Addr.add] using World.cell?_spot (hq 0 h0).1
    have hdef : ∀ i, ¬ i < len → nth ((List.range len).map q) i = ⟨0, 0, ByteArray.empty⟩ := fun i hi => by simp [nth, List.getD, hi]
    refine ⟨(List.range len).map q, some ⟨b, off, spot⟩, b, off, cap, by rw [hlq], ⟨fun h => ?_, fun h => ?_, fun i hi => ?_, ?_, ?_, fun i => ?_, fun i => ?_⟩, by rw [hlq]; exact hbk0⟩
    · rw [hlq] at h; rw [hform h]
    · rw [hlq] at h
      have := block_lt_of_cell (hq 0 h).1
      simpa [Addr.add] using this
    · rw [hlq] at hi
      obtain rfl := hform (by omega)
      obtain ⟨c0, c1, c2, _⟩ := hq i hi
      rw [hnth i hi]
      rw [add_plain] at c0 c1 c2
      exact ⟨c0, c1, c2⟩
    · rw [hlq]; omega
    · rw [hlq]; omega
    · by_cases hi : i < len
      · rw [hnth i hi]; exact wf_range (hq i hi).2.2.2.2.2
      · rw [hdef i hi]; simp
    · by_cases hi : i < len
      · rw [hnth i hi]; exact wf_range (hq i hi).2.2.2.2.1
      · rw [hdef i hi]; simp
end Go.Proofs.YtdlolnahbgecjaaDoor
