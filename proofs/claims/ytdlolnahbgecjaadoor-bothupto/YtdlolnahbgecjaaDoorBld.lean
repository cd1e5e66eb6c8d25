import Derived.Test.YtdlolnahbgecjaaDoorEach
import Derived.Lib.Strings
import Derived.Lib.Slices
import Derived.Lib.Walk
import Derived.Lib.Builder
import Derived.Lib.AppendStr
import Derived.Lib.UnsafeStr
import Derived.Lib.MakeNoZero
import Derived.Laws.Externs
import Derived.BigRegion
namespace Go.Proofs.YtdlolnahbgecjaaDoor
open Go.RowKit
set_option linter.unusedVariables false

theorem Tryd.size87 : (Tryd.prog.info? 87).map (·.size) = some 2 := by kernel_rfl
theorem Tryd.info5 : (Tryd.prog.info? 5).map (fun i => (i.zero, i.size, i.bytes)) = some (some (.int .u8 0), 1, 1) := by kernel_rfl

set_option maxHeartbeats 1000000 in
set_option maxRecDepth 100000 in
theorem copyCheck_used (b o : Nat) (w : World) (h0 : w.cell? ⟨b, o, none⟩ = some (.pointer (some ⟨b, o, none⟩))) :
    Calls Tryd.prog 58 #[.pointer (some ⟨b, o, none⟩)] w fun e w' => e = .returned (.tuple #[]) ∧ w' = w := by
  obtain ⟨j, hj, _⟩ := Option.map_eq_some_iff.1 Tryd.size87
  go_enter Tryd.func58, Tryd.ntmps58
  go_wp2
  rw [Lib.run_neq_ptr_same w _ Tryd.underlying84 hj]
  go_wp2
  go_end0
  exact ⟨rfl, rfl⟩

set_option maxHeartbeats 1000000 in
set_option maxRecDepth 100000 in
theorem copyCheck_fresh (b o T n : Nat) (w : World) (h0 : w.cell? ⟨b, o, none⟩ = some (.pointer none)) (hsh : w.shape? b = some (T, n)) (ho : o < n) (hlies : liesAt Tryd.prog Tryd.prog.depth T (n / Tryd.prog.cellsOf T) o 87 1 = true) (hfz : w.frozen? ⟨b, o, none⟩ = false) :
    Calls Tryd.prog 58 #[.pointer (some ⟨b, o, none⟩)] w fun e w' => e = .returned (.tuple #[]) ∧ w.setCell ⟨b, o, none⟩ (.pointer (some ⟨b, o, none⟩)) = w' := by
  obtain ⟨j, hj, hjs⟩ := Option.map_eq_some_iff.1 Tryd.size87
  have k1 := Lib.run_to_unsafe w ⟨b, o, none⟩ Tryd.underlying84 Tryd.underlying128 hj (by rw [hjs]; decide) hsh ho
  have k2 := Lib.run_from_unsafe w ⟨b, o, none⟩ Tryd.underlying128 Tryd.underlying84 hj hsh hlies
  have k3 : ∀ x, (callFunc 66 #[x]).run Tryd.prog w = .ok (.value x) w := fun x => by
    rw [run_callFunc_extern Tryd.func66 (by kernel_rfl) (by kernel_rfl) (by kernel_rfl) (e := Extern.AbiNoEscape.same) (by kernel_rfl), Lib.run_noEscape]
    rfl
  clear hlies hsh
  go_enter Tryd.func58, Tryd.ntmps58
  go_wp2
  go_end0
  exact ⟨rfl, rfl⟩

theorem Blk.shape {w : World} {b : Nat} {cs : Array Value} {t : TypeId} (h : Blk w b cs t) : w.shape? b = some (t, cs.size) := by
  have h' : w.heap[b]? = some (.cells cs t (0, 0)) := h
  simp [World.shape?, h']
theorem set_same (cs : Array Value) (o : Nat) (v : Value) (h : cs[o]? = some v) : cs.setIfInBounds o v = cs := by
  apply Array.ext_getElem?
  intro i
  rw [Array.getElem?_setIfInBounds]
  by_cases e : o = i
  · subst e
    obtain ⟨hlt, e⟩ := Array.getElem?_eq_some_iff.1 h
    simp [hlt, e]
  · simp [e]
/-- the block that an owned slice lies in is of the element's type -/
theorem own_ne {w : World} {base e size n : Nat} {v : Value} {xs : List Value} {b : Nat} {cs : Array Value} {T : TypeId} (hown : w.ownsRow base e size v n xs) (hb : Blk w b cs T) (hT : T ≠ e) : v.ownBlock ≠ some b := by
  rcases hown.2 with ⟨rfl, _⟩ | ⟨g, cap, cur, rfl, _, hg, _⟩
  · simp [Value.ownBlock]
  · intro h
    simp only [Value.ownBlock, Option.some.injEq] at h
    subst h
    have := hg.symm.trans hb
    simp at this
    exact hT this.2.symm

/-- an owned row stays owned where its block is not written -/
theorem ownsRow_wr {S : Nat → Prop} {w w' : World} {base e size n : Nat} {v : Value} {xs : List Value} (h : w.ownsRow base e size v n xs) (hw : Wr S w w') (hn : ∀ k, v.ownBlock = some k → ¬ S k) : w'.ownsRow base e size v n xs := by
  obtain ⟨h1, h2⟩ := h
  refine ⟨h1, ?_⟩
  rcases h2 with h2 | ⟨g, cap, cur, rfl, hg, hh, r⟩
  · exact Or.inl h2
  · exact Or.inr ⟨g, cap, cur, rfl, hg, (hw.block g (Array.getElem?_eq_some_iff.1 hh).1 (hn g rfl)).trans hh, r⟩
theorem Wr.grown {S : Nat → Prop} {w w' : World} {row : Option Nat} (h : w.grownBy w' row) (hS : ∀ k, row = some k → S k) : Wr S w w' :=
  ⟨h.os, h.tape, h.output, h.size, fun k hk hn => h.block k hk (fun e => hn (hS k e.symm))⟩

theorem copyCheck_any (b o T : Nat) (cs : Array Value) (p : Value) (w : World) (hB : Blk w b cs T) (h0 : cs[o]? = some p) (hp : p = .pointer none ∨ p = .pointer (some ⟨b, o, none⟩)) (hlies : liesAt Tryd.prog Tryd.prog.depth T (cs.size / Tryd.prog.cellsOf T) o 87 1 = true) :
    Calls Tryd.prog 58 #[.pointer (some ⟨b, o, none⟩)] w fun e w' => e = .returned (.tuple #[]) ∧ Blk w' b (cs.setIfInBounds o (.pointer (some ⟨b, o, none⟩))) T ∧ Wr (fun k => k = b) w w' := by
  rcases hp with rfl | rfl
  · refine (copyCheck_fresh b o T cs.size w (hB.cell o h0) hB.shape (Array.getElem?_eq_some_iff.1 h0).1 hlies (hB.free o)).mono ?_
    rintro e w' ⟨rfl, rfl⟩
    exact ⟨rfl, hB.set o _, (Wr.refl (fun k => k = b) w).set (Or.inl rfl) o _⟩
  · refine (copyCheck_used b o w (hB.cell o h0)).mono ?_
    rintro e w' ⟨rfl, rfl⟩
    exact ⟨rfl, by rw [set_same cs o _ h0]; exact hB, Wr.refl _ _⟩

set_option maxHeartbeats 2000000 in
set_option maxRecDepth 100000 in
theorem writeString_any (b o T : Nat) (cs : Array Value) (p v : Value) (m base : Nat) (bs : List Value) (s : ByteArray) (w : World) (hB : Blk w b cs T) (h0 : cs[o]? = some p) (h1 : cs[o + 1]? = some v) (hp : p = .pointer none ∨ p = .pointer (some ⟨b, o, none⟩)) (hT : T ≠ 5)
    (hlies : liesAt Tryd.prog Tryd.prog.depth T (cs.size / Tryd.prog.cellsOf T) o 87 1 = true) (hown : w.ownsRow base 5 1 v m bs) (hm : m + s.size ≤ 140737488355328) (hbase : base ≤ w.heap.size) :
    Calls Tryd.prog 45 #[.pointer (some ⟨b, o, none⟩), .string s] w fun e w' => e = .returned (.tuple #[.int .i64 s.size, .nilIface]) ∧ ∃ v', Blk w' b ((cs.setIfInBounds o (.pointer (some ⟨b, o, none⟩))).setIfInBounds (o + 1) v') T ∧ w'.ownsRow base 5 1 v' (m + s.size) (bs ++ Lib.strCells s) ∧ Wr (fun k => k = b ∨ some k = v.ownBlock) w w' := by
  obtain ⟨i0, hi, hz0, hz1, hz2⟩ := info_parts Tryd.info5
  have hC := copyCheck_any b o T cs p w hB h0 hp hlies
  have hnb := own_ne hown hB hT
  have HC : Hid (Calls Tryd.prog 58 #[.pointer (some ⟨b, o, none⟩)] w fun e w' => e = .returned (.tuple #[]) ∧ Blk w' b (cs.setIfInBounds o (.pointer (some ⟨b, o, none⟩))) T ∧ Wr (fun k => k = b) w w') := hC
  have H1 : Hid (cs[o + 1]? = some v) := h1
  have HO : Hid (w.ownsRow base 5 1 v m bs) := hown
  clear hC h0 h1 hp hlies hB hown
  go_enter Tryd.func45, Tryd.ntmps45
  go_wp2_with (go_at_call 58; refine HC.out.mono ?_)
  rintro e w1 ⟨rfl, hB1, hW1⟩
  have HB1 : Hid (Blk w1 b (cs.setIfInBounds o (.pointer (some ⟨b, o, none⟩))) T) := hB1
  have HO1 : Hid (w1.ownsRow base 5 1 v m bs) := ownsRow_wr HO.out hW1 (fun k hk (e : k = b) => hnb (by rw [hk, e]))
  have c1 : w1.cell? ⟨b, o + 1, none⟩ = some v := hB1.cell (o + 1) (by rw [Array.getElem?_setIfInBounds, if_neg (by omega)]; exact H1.out)
  have hs1 := hW1.size
  clear hB1
  go_wp2_with (at_builtin; refine Lib.wpList_append_own_string _ rfl _ _ 85 9 rfl base 5 i0 Tryd.underlying85 Tryd.underlying9 hi hz0 hz1 hz2 _ _ _ rfl HO1.out s rfl ?c3 ?c4 ?c5 ?_)
  case c3 => unfold maxLen; omega
  case c4 => omega
  case c5 => omega
  intro v' w2 hown' hgrow _
  have HB2 : Hid (Blk w2 b (cs.setIfInBounds o (.pointer (some ⟨b, o, none⟩))) T) := (hgrow.block b HB1.out.lt (fun e => hnb e.symm)).trans HB1.out
  have d1 : w2.cell? ⟨b, o + 1, none⟩ = some v := HB2.out.cell (o + 1) (by rw [Array.getElem?_setIfInBounds, if_neg (by omega)]; exact H1.out)
  have f1 : w2.frozen? ⟨b, o + 1, none⟩ = false := HB2.out.free (o + 1)
  obtain ⟨ao, n', cap, rfl⟩ : ∃ ao n' cap, v' = .slice ao n' cap := by
    rcases hown'.2 with ⟨hv, _⟩ | ⟨g, cap, cur, hv, _⟩
    · exact ⟨_, _, _, hv⟩
    · exact ⟨_, _, _, hv⟩
  have HO2 : Hid (w2.ownsRow base 5 1 (.slice ao n' cap) (m + s.size) (bs ++ Lib.strCells s)) := hown'
  have HW : Hid (Wr (fun k => k = b ∨ some k = v.ownBlock) w w2) := (hW1.mono (fun k _ h => Or.inl h)).trans (Wr.grown hgrow (fun k hk => Or.inr hk.symm))
  clear hown' hgrow
  go_wp2
  go_ret2
  refine ⟨rfl, .slice ao n' cap, HB2.out.set (o + 1) _, ?_, HW.out.set (Or.inl (Or.inl rfl)) (o + 1) _⟩
  exact ownsRow_setCell_other HO2.out (own_ne HO2.out HB2.out hT) _

set_option maxHeartbeats 1000000 in
set_option maxRecDepth 100000 in
theorem len_any (b o T : Nat) (cs : Array Value) (ao : Option Addr) (m cap : Nat) (w : World) (hB : Blk w b cs T) (h1 : cs[o + 1]? = some (.slice ao m cap)) :
    Calls Tryd.prog 75 #[.pointer (some ⟨b, o, none⟩)] w fun e w' => e = .returned (.int .i64 m) ∧ w' = w := by
  have c1 := hB.cell (o + 1) h1
  clear hB h1
  go_enter Tryd.func75, Tryd.ntmps75
  go_wp2
  go_ret
  exact ⟨rfl, rfl⟩

set_option maxHeartbeats 1000000 in
set_option maxRecDepth 100000 in
theorem reset_any (b o T : Nat) (cs : Array Value) (p : Value) (ao : Option Addr) (m cap : Nat) (w : World) (hB : Blk w b cs T) (h0 : cs[o]? = some p) (hp : p = .pointer none ∨ p = .pointer (some ⟨b, o, none⟩)) (h1 : cs[o + 1]? = some (.slice ao m cap)) :
    Calls Tryd.prog 76 #[.pointer (some ⟨b, o, none⟩)] w fun e w' => e = .returned (.tuple #[]) ∧ Blk w' b ((cs.setIfInBounds o (.pointer none)).setIfInBounds (o + 1) (.slice none 0 0)) T ∧ Wr (fun k => k = b) w w' := by
  have HB : Hid (Blk w b cs T) := hB
  have c0 := hB.cell o h0
  have c1 := hB.cell (o + 1) h1
  have f0 := hB.free o
  have f1 := hB.free (o + 1)
  have fin : Hid (Blk ((w.setCell ⟨b, o, none⟩ (.pointer none)).setCell ⟨b, o + 1, none⟩ (.slice none 0 0)) b ((cs.setIfInBounds o (.pointer none)).setIfInBounds (o + 1) (.slice none 0 0)) T ∧ Wr (fun k => k = b) w ((w.setCell ⟨b, o, none⟩ (.pointer none)).setCell ⟨b, o + 1, none⟩ (.slice none 0 0))) :=
    ⟨(hB.set o _).set (o + 1) _, ((Wr.refl (fun k => k = b) w).set (Or.inl rfl) o _).set (Or.inl rfl) (o + 1) _⟩
  clear hB h0 h1
  rcases hp with rfl | rfl
  all_goals
    go_enter Tryd.func76, Tryd.ntmps76
    go_wp2
    go_end0
    exact ⟨rfl, fin.out⟩
end Go.Proofs.YtdlolnahbgecjaaDoor
