import Derived.Test.YtdlolnahbgecjaaDoorIs
import Derived.Test.YtdlolnahbgecjaaDoorShelf
import Derived.Lib.ItoaLen
import Derived.Lib.AppendIntMem
namespace Go.Proofs.YtdlolnahbgecjaaDoor
open Go.RowKit

/-- The sentinel at the variable g is at a. -/
def Sen (N : Nat) (w : World) (g : Nat) (a : Addr) : Prop := w.cell? ⟨g, 0, none⟩ = some (.iface 149 (.pointer (some a))) ∧ (∃ cs t, w.heap[a.block]? = some (.cells cs t (0, 0))) ∧ a.block < N
/-- How many sentinels there are: the first variables. -/
abbrev senK : Nat := 10
/-- What the calls lean on: the sentinels and the table of powers, in blocks below N. -/
structure Env (N : Nat) (f c : Addr) (w : World) : Prop where
  gf : w.cell? ⟨0, 0, none⟩ = some (.iface 149 (.pointer (some f)))
  gc : w.cell? ⟨1, 0, none⟩ = some (.iface 149 (.pointer (some c)))
  ne : f ≠ c
  rf : ∃ cs t, w.heap[f.block]? = some (.cells cs t (0, 0))
  rc : ∃ cs t, w.heap[c.block]? = some (.cells cs t (0, 0))
  tab : Lib.TabIs Tryd.prog w "internal/strconv.uint64pow10" .u64 Lib.pow10Tab
  fN : f.block < N
  cN : c.block < N
  six : 14 ≤ N
  le : N ≤ w.heap.size
  sen : ∀ g, g < senK → ∃ a, Sen N w g a
  dis : ∀ g h a b, g < senK → h < senK → g ≠ h → Sen N w g a → Sen N w h b → a ≠ b

theorem Tryd.gPow : Tryd.prog.globalNamed "internal/strconv.uint64pow10" = some 11 := by kernel_rfl
theorem Sen.below {N : Nat} {w w' : World} {B g : Nat} {a : Addr} (h : Below B w w') (hB : N ≤ B) (hg : g < N) (s : Sen N w g a) : Sen N w' g a := by
  obtain ⟨h1, ⟨cs, t, hr⟩, h3⟩ := s
  exact ⟨(h.cell (p := ⟨g, 0, none⟩) (by show g < B; omega)).trans h1, ⟨cs, t, (h.block _ (by omega)).trans hr⟩, h3⟩
theorem Sen.back {N : Nat} {w w' : World} {B g : Nat} {a : Addr} (h : Below B w w') (hB : N ≤ B) (hg : g < N) (s : Sen N w' g a) : Sen N w g a := by
  obtain ⟨h1, ⟨cs, t, hr⟩, h3⟩ := s
  exact ⟨(h.cell (p := ⟨g, 0, none⟩) (by show g < B; omega)).symm.trans h1, ⟨cs, t, (h.block _ (by omega)).symm.trans hr⟩, h3⟩
theorem Env.below {N : Nat} {f c : Addr} {w w' : World} (E : Env N f c w) {B : Nat} (h : Below B w w') (hB : N ≤ B) : Env N f c w' := by
  have h6 := E.six
  have hf := E.fN
  have hc := E.cN
  refine ⟨(h.cell (p := ⟨0, 0, none⟩) (by show 0 < B; omega)).trans E.gf, (h.cell (p := ⟨1, 0, none⟩) (by show 1 < B; omega)).trans E.gc, E.ne, ?_, ?_, ?_, E.fN, E.cN, E.six, Nat.le_trans E.le h.size, ?_, ?_⟩
  · obtain ⟨cs, t, hr⟩ := E.rf; exact ⟨cs, t, (h.block _ (by omega)).trans hr⟩
  · obtain ⟨cs, t, hr⟩ := E.rc; exact ⟨cs, t, (h.block _ (by omega)).trans hr⟩
  · exact var?_below h Tryd.gPow (by omega) E.tab
  · intro g hg
    obtain ⟨a, ha⟩ := E.sen g hg
    exact ⟨a, ha.below h hB (Nat.lt_of_lt_of_le (Nat.lt_of_lt_of_le hg (by decide)) h6)⟩
  · intro g k a b hg hk hne ha hb
    exact E.dis g k a b hg hk hne (ha.back h hB (Nat.lt_of_lt_of_le (Nat.lt_of_lt_of_le hg (by decide)) h6)) (hb.back h hB (Nat.lt_of_lt_of_le (Nat.lt_of_lt_of_le hk (by decide)) h6))
theorem Env.here {N : Nat} {f c : Addr} {w w' : World} (E : Env N f c w) (h : Below w.heap.size w w') : Env N f c w' := E.below h E.le
theorem Env.senF {N : Nat} {f c : Addr} {w : World} (E : Env N f c w) : Sen N w 0 f := ⟨E.gf, E.rf, E.fN⟩
theorem Env.senC {N : Nat} {f c : Addr} {w : World} (E : Env N f c w) : Sen N w 1 c := ⟨E.gc, E.rc, E.cN⟩

theorem itoa_any {N : Nat} {f c : Addr} (n : Int) (w : World) (E : Env N f c w) (h0 : -9223372036854775808 ≤ n) (h1 : n ≤ 9223372036854775807) :
    Calls Tryd.prog 38 #[.int .i64 n] w fun e w' => ∃ s : ByteArray, e = .returned (.string s) ∧ s.size ≤ 21 ∧ Below w.heap.size w w' := by
  refine (Tryd.strconv_Itoa n h0 h1 w E.tab).mono ?_
  rintro e w' ⟨rfl, k, os, rfl⟩
  refine ⟨_, rfl, ?_, Lib.below_grow _ w (Nat.le_refl _) k os⟩
  have := Lib.itoa_length_le n h0 h1
  simpa [ByteArray.size] using this

theorem ErrOf.below {w w' : World} {B : Nat} (h : Below B w w') : ∀ {d : Nat} {v : Value} {a : Addr}, ErrOf w d v a → w.heap.size ≤ B → ErrOf w' d v a
  | 0, _, _, e, _ => e
  | _ + 1, _, _, ⟨b, v', e, hc, r⟩, hB => ⟨b, v', e, (h.cell (p := ⟨b, 1, none⟩) (Nat.lt_of_lt_of_le (block_lt_of_cell hc) hB)).trans hc, ErrOf.below h r hB⟩

/-- nil, or an error of the sentinel at a. -/
def numOf (f c : Addr) (r : Option Addr) : Int := match r with
  | none => 0
  | some a => if a = c then 1 else if a = f then 2 else 2
def ErrIs (w : World) (v : Value) (r : Option Addr) : Prop := match r with
  | none => v = .nilIface
  | some a => ∃ d, ErrOf w d v a
theorem ErrIs.below {w w' : World} {v : Value} {r : Option Addr} (h : ErrIs w v r) (hb : Below w.heap.size w w') : ErrIs w' v r := by
  cases r with
  | none => exact h
  | some a => obtain ⟨d, h⟩ := h; exact ⟨d, h.below hb (Nat.le_refl _)⟩
/-- wrapped once more, in a new block -/
theorem ErrOf.wrap {w : World} {d : Nat} {v : Value} {a : Addr} (h : ErrOf w d v a) (s : ByteArray) : ErrOf (w.alloc (.cells #[.string s, v] 78)) (d + 1) (.iface 76 (.pointer (some ⟨w.heap.size, 0, none⟩))) a :=
  ⟨w.heap.size, v, rfl, by simp [World.cell?_alloc_at], h.below ((Below.refl w.heap.size w).alloc (Nat.le_refl _) _) (Nat.le_refl _)⟩

theorem decide_sen {N : Nat} {f c : Addr} {w : World} (E : Env N f c w) {g h : Nat} {a b : Addr} (hg : g < senK) (hh : h < senK) (s : Sen N w g a) (t : Sen N w h b) : decide (a = b) = decide (g = h) := by
  by_cases e : g = h
  · subst e
    have := s.1.symm.trans t.1
    simp only [Option.some.injEq, Value.iface.injEq, Value.pointer.injEq, true_and] at this
    simp [this]
  · have := E.dis g h a b hg hh e s t
    simp [e, this]

/-- what the face makes of the sentinel at the variable g -/
def codeOf : Nat → Int
  | 1 => 1
  | 2 => 3
  | 3 => 8
  | 4 => 6
  | 5 => 4
  | 6 => 5
  | 7 => 7
  | 8 => 9
  | 9 => 10
  | _ => 2

set_option maxRecDepth 100000 in
set_option maxHeartbeats 2000000 in
theorem number_core (t' : TypeId) (p' : Value) (a1 a2 a3 a4 a5 a6 a7 a8 a9 : Addr) (b1 b2 b3 b4 b5 b6 b7 b8 b9 : Bool) (w : World) (g1 : w.cell? ⟨1, 0, none⟩ = some (.iface 149 (.pointer (some a1)))) (g2 : w.cell? ⟨2, 0, none⟩ = some (.iface 149 (.pointer (some a2)))) (g3 : w.cell? ⟨3, 0, none⟩ = some (.iface 149 (.pointer (some a3)))) (g4 : w.cell? ⟨4, 0, none⟩ = some (.iface 149 (.pointer (some a4)))) (g5 : w.cell? ⟨5, 0, none⟩ = some (.iface 149 (.pointer (some a5)))) (g6 : w.cell? ⟨6, 0, none⟩ = some (.iface 149 (.pointer (some a6)))) (g7 : w.cell? ⟨7, 0, none⟩ = some (.iface 149 (.pointer (some a7)))) (g8 : w.cell? ⟨8, 0, none⟩ = some (.iface 149 (.pointer (some a8)))) (g9 : w.cell? ⟨9, 0, none⟩ = some (.iface 149 (.pointer (some a9))))
    (K1 : Hid (Calls Tryd.prog 39 #[.iface t' p', .iface 149 (.pointer (some a1))] w fun e w' => e = .returned (.bool b1) ∧ w' = w)) (K2 : Hid (Calls Tryd.prog 39 #[.iface t' p', .iface 149 (.pointer (some a2))] w fun e w' => e = .returned (.bool b2) ∧ w' = w)) (K3 : Hid (Calls Tryd.prog 39 #[.iface t' p', .iface 149 (.pointer (some a3))] w fun e w' => e = .returned (.bool b3) ∧ w' = w)) (K4 : Hid (Calls Tryd.prog 39 #[.iface t' p', .iface 149 (.pointer (some a4))] w fun e w' => e = .returned (.bool b4) ∧ w' = w)) (K5 : Hid (Calls Tryd.prog 39 #[.iface t' p', .iface 149 (.pointer (some a5))] w fun e w' => e = .returned (.bool b5) ∧ w' = w)) (K6 : Hid (Calls Tryd.prog 39 #[.iface t' p', .iface 149 (.pointer (some a6))] w fun e w' => e = .returned (.bool b6) ∧ w' = w)) (K7 : Hid (Calls Tryd.prog 39 #[.iface t' p', .iface 149 (.pointer (some a7))] w fun e w' => e = .returned (.bool b7) ∧ w' = w)) (K8 : Hid (Calls Tryd.prog 39 #[.iface t' p', .iface 149 (.pointer (some a8))] w fun e w' => e = .returned (.bool b8) ∧ w' = w)) (K9 : Hid (Calls Tryd.prog 39 #[.iface t' p', .iface 149 (.pointer (some a9))] w fun e w' => e = .returned (.bool b9) ∧ w' = w)) :
    Calls Tryd.prog 26 #[.iface t' p'] w fun e w' => e = .returned (.int .i64 (if b1 then 1 else if b2 then 3 else if b3 then 8 else if b4 then 6 else if b5 then 4 else if b6 then 5 else if b7 then 7 else if b8 then 9 else if b9 then 10 else 2)) ∧ w' = w := by
  go_enter Tryd.func26, Tryd.ntmps26
  go_wp2_with fail
  refine K1.out.mono ?_
  rintro e w' ⟨rfl, rfl⟩
  cases b1 with
  | true =>
    go_wp2
    go_ret
    exact ⟨rfl, rfl⟩
  | false =>
    go_wp2_with fail
    refine K2.out.mono ?_
    rintro e w' ⟨rfl, rfl⟩
    cases b2 with
    | true =>
      go_wp2
      go_ret
      exact ⟨rfl, rfl⟩
    | false =>
      go_wp2_with fail
      refine K3.out.mono ?_
      rintro e w' ⟨rfl, rfl⟩
      cases b3 with
      | true =>
        go_wp2
        go_ret
        exact ⟨rfl, rfl⟩
      | false =>
        go_wp2_with fail
        refine K4.out.mono ?_
        rintro e w' ⟨rfl, rfl⟩
        cases b4 with
        | true =>
          go_wp2
          go_ret
          exact ⟨rfl, rfl⟩
        | false =>
          go_wp2_with fail
          refine K5.out.mono ?_
          rintro e w' ⟨rfl, rfl⟩
          cases b5 with
          | true =>
            go_wp2
            go_ret
            exact ⟨rfl, rfl⟩
          | false =>
            go_wp2_with fail
            refine K6.out.mono ?_
            rintro e w' ⟨rfl, rfl⟩
            cases b6 with
            | true =>
              go_wp2
              go_ret
              exact ⟨rfl, rfl⟩
            | false =>
              go_wp2_with fail
              refine K7.out.mono ?_
              rintro e w' ⟨rfl, rfl⟩
              cases b7 with
              | true =>
                go_wp2
                go_ret
                exact ⟨rfl, rfl⟩
              | false =>
                go_wp2_with fail
                refine K8.out.mono ?_
                rintro e w' ⟨rfl, rfl⟩
                cases b8 with
                | true =>
                  go_wp2
                  go_ret
                  exact ⟨rfl, rfl⟩
                | false =>
                  go_wp2_with fail
                  refine K9.out.mono ?_
                  rintro e w' ⟨rfl, rfl⟩
                  cases b9 with
                  | true =>
                    go_wp2
                    go_ret
                    exact ⟨rfl, rfl⟩
                  | false =>
                    go_wp2
                    go_ret
                    exact ⟨rfl, rfl⟩

theorem number_sen {N : Nat} {f c : Addr} (v : Value) (a : Addr) (g : Nat) (hg : g < senK) (w : World) (E : Env N f c w) (S : Sen N w g a) (hE : ErrIs w v (some a)) :
    Calls Tryd.prog 26 #[v] w fun e w' => e = .returned (.int .i64 (codeOf g)) ∧ w' = w := by
  obtain ⟨d, hE⟩ := hE
  obtain ⟨t', p', rfl⟩ := hE.shape
  obtain ⟨ca, ta, ra⟩ := S.2.1
  obtain ⟨a1, s1⟩ := E.sen 1 (by decide)
  obtain ⟨a2, s2⟩ := E.sen 2 (by decide)
  obtain ⟨a3, s3⟩ := E.sen 3 (by decide)
  obtain ⟨a4, s4⟩ := E.sen 4 (by decide)
  obtain ⟨a5, s5⟩ := E.sen 5 (by decide)
  obtain ⟨a6, s6⟩ := E.sen 6 (by decide)
  obtain ⟨a7, s7⟩ := E.sen 7 (by decide)
  obtain ⟨a8, s8⟩ := E.sen 8 (by decide)
  obtain ⟨a9, s9⟩ := E.sen 9 (by decide)
  have e1 : decide (a = a1) = decide (g = 1) := decide_sen E hg (by decide) S s1
  have e2 : decide (a = a2) = decide (g = 2) := decide_sen E hg (by decide) S s2
  have e3 : decide (a = a3) = decide (g = 3) := decide_sen E hg (by decide) S s3
  have e4 : decide (a = a4) = decide (g = 4) := decide_sen E hg (by decide) S s4
  have e5 : decide (a = a5) = decide (g = 5) := decide_sen E hg (by decide) S s5
  have e6 : decide (a = a6) = decide (g = 6) := decide_sen E hg (by decide) S s6
  have e7 : decide (a = a7) = decide (g = 7) := decide_sen E hg (by decide) S s7
  have e8 : decide (a = a8) = decide (g = 8) := decide_sen E hg (by decide) S s8
  have e9 : decide (a = a9) = decide (g = 9) := decide_sen E hg (by decide) S s9
  obtain ⟨g1, ⟨c1, t1, r1⟩, _⟩ := s1
  obtain ⟨g2, ⟨c2, t2, r2⟩, _⟩ := s2
  obtain ⟨g3, ⟨c3, t3, r3⟩, _⟩ := s3
  obtain ⟨g4, ⟨c4, t4, r4⟩, _⟩ := s4
  obtain ⟨g5, ⟨c5, t5, r5⟩, _⟩ := s5
  obtain ⟨g6, ⟨c6, t6, r6⟩, _⟩ := s6
  obtain ⟨g7, ⟨c7, t7, r7⟩, _⟩ := s7
  obtain ⟨g8, ⟨c8, t8, r8⟩, _⟩ := s8
  obtain ⟨g9, ⟨c9, t9, r9⟩, _⟩ := s9
  have H1 := is_any d _ a a1 ca c1 ta t1 w hE ra r1
  have H2 := is_any d _ a a2 ca c2 ta t2 w hE ra r2
  have H3 := is_any d _ a a3 ca c3 ta t3 w hE ra r3
  have H4 := is_any d _ a a4 ca c4 ta t4 w hE ra r4
  have H5 := is_any d _ a a5 ca c5 ta t5 w hE ra r5
  have H6 := is_any d _ a a6 ca c6 ta t6 w hE ra r6
  have H7 := is_any d _ a a7 ca c7 ta t7 w hE ra r7
  have H8 := is_any d _ a a8 ca c8 ta t8 w hE ra r8
  have H9 := is_any d _ a a9 ca c9 ta t9 w hE ra r9
  rw [e1] at H1
  rw [e2] at H2
  rw [e3] at H3
  rw [e4] at H4
  rw [e5] at H5
  rw [e6] at H6
  rw [e7] at H7
  rw [e8] at H8
  rw [e9] at H9
  have hc : codeOf g = if decide (g = 1) then 1 else if decide (g = 2) then 3 else if decide (g = 3) then 8 else if decide (g = 4) then 6 else if decide (g = 5) then 4 else if decide (g = 6) then 5 else if decide (g = 7) then 7 else if decide (g = 8) then 9 else if decide (g = 9) then 10 else 2 := by
    match g, hg with
    | 0, _ => rfl
    | 1, _ => rfl
    | 2, _ => rfl
    | 3, _ => rfl
    | 4, _ => rfl
    | 5, _ => rfl
    | 6, _ => rfl
    | 7, _ => rfl
    | 8, _ => rfl
    | 9, _ => rfl
  rw [hc]
  exact number_core t' p' a1 a2 a3 a4 a5 a6 a7 a8 a9 _ _ _ _ _ _ _ _ _ w g1 g2 g3 g4 g5 g6 g7 g8 g9 H1 H2 H3 H4 H5 H6 H7 H8 H9

set_option maxRecDepth 100000 in
set_option maxHeartbeats 1000000 in
theorem number_nil (w : World) : Calls Tryd.prog 26 #[.nilIface] w fun e w' => e = .returned (.int .i64 0) ∧ w' = w := by
  go_enter Tryd.func26, Tryd.ntmps26
  go_wp2
  go_ret
  exact ⟨rfl, rfl⟩

theorem number_any {N : Nat} {f c : Addr} (v : Value) (r : Option Addr) (w : World) (E : Env N f c w) (hr : r = none ∨ r = some f ∨ r = some c) (hE : ErrIs w v r) :
    Calls Tryd.prog 26 #[v] w fun e w' => e = .returned (.int .i64 (numOf f c r)) ∧ w' = w := by
  rcases hr with rfl | rfl | rfl
  · obtain rfl := hE
    exact number_nil w
  · have h : numOf f c (some f) = codeOf 0 := by simp [numOf, E.ne, codeOf]
    rw [h]
    exact number_sen v f 0 (by decide) w E E.senF hE
  · have h : numOf f c (some c) = codeOf 1 := by simp [numOf, codeOf]
    rw [h]
    exact number_sen v c 1 (by decide) w E E.senC hE
end Go.Proofs.YtdlolnahbgecjaaDoor
