import Derived.Test.YtdbepogafbagpaaDoorDo3
namespace Go.Proofs.YtdbepogafbagpaaDoor
open Go.RowKit
set_option linter.unusedVariables false

theorem Tryd.cells5 : Tryd.prog.cellsOf 5 = 1 := by kernel_rfl

theorem freeze_wr {w : World} {g n : Nat} : Wr (fun k => k = g) w (w.freeze ⟨g, 0, none⟩ n) := by
  unfold World.freeze
  split
  · exact Wr.refl _ _
  · exact ⟨rfl, rfl, rfl, by simp, fun k _ hk => by
      simp only [Array.getElem?_modify]
      rw [if_neg (fun e => hk e.symm)]⟩

set_option maxHeartbeats 1000000 in
set_option maxRecDepth 100000 in
/-- String of a Builder that holds at least one byte -/
theorem string_at (b o T base : Nat) (cs : Array Value) (v : Value) (s : ByteArray) (w : World) (hB : Blk w b cs T) (h1 : cs[o + 1]? = some v) (hown : w.ownsRow base 5 1 v s.size (Lib.strCells s)) (hs : 0 < s.size) :
    Calls Tryd.prog 46 #[.pointer (some ⟨b, o, none⟩)] w fun e w' => e = .returned (.string s) ∧ Wr (fun k => some k = v.ownBlock) w w' := by
  have hl0 : s.data.toList ≠ [] := by
    intro h
    have : s.data.toList.length = 0 := by rw [h]; rfl
    rw [Array.length_toList] at this
    have e : s.size = s.data.size := rfl
    omega
  have hlen : s.data.toList.length = s.size := by rw [Array.length_toList]; rfl
  obtain ⟨g, cap, cur, rfl, hbg, hg, hnc, hcm, hcs, htake⟩ : ∃ g cap cur, v = .slice (some ⟨g, 0, none⟩) s.size cap ∧ base ≤ g ∧ w.heap[g]? = some (.cells cur 5 (0, 0)) ∧ s.size ≤ cap ∧ cap ≤ maxLen ∧ cur.size = cap * 1 ∧ cur.toList.take (s.size * 1) = Lib.strCells s := by
    rcases hown.2 with ⟨_, hz⟩ | ⟨g, cap, cur, hv, r⟩
    · omega
    · exact ⟨g, cap, cur, hv, r⟩
  have c1 : w.drew.cell? ⟨b, o + 1, none⟩ = some (.slice (some ⟨g, 0, none⟩) s.size cap) := hB.drew.cell (o + 1) h1
  have c1' : w.cell? ⟨b, o + 1, none⟩ = some (.slice (some ⟨g, 0, none⟩) s.size cap) := hB.cell (o + 1) h1
  have hSD : (Builtin.unsafeSliceData_ #[85] 113 #[.slice (some ⟨g, 0, none⟩) s.size cap]).run Tryd.prog w.drew = .ok (.pointer (some ⟨g, 0, none⟩)) w.drew :=
    Lib.run_unsafeSliceData_row _ _ _ _ _ _ (by omega)
  have hUS : (Builtin.unsafeString_ #[113, 3] 9 #[.pointer (some ⟨g, 0, none⟩), .int .i64 s.size]).run Tryd.prog w.drew = .ok (.string s) (w.drew.freeze ⟨g, 0, none⟩ s.size) := by
    have := Lib.run_unsafeString_row w.drew 113 3 9 5 Tryd.underlying113 Tryd.cells5 g cur.size (by have hg' : w.drew.heap[g]? = some (.cells cur 5 (0, 0)) := hg; simp [World.shape?, hg']) s.data.toList hl0 (by omega) (by unfold maxLen at hcm; omega) (by
      intro j x hx
      exact hown.cells (g := g) rfl j (.int .u8 x.toNat) (by simp [Lib.strCells, hx]))
    rw [hlen] at this
    exact this
  have HW : Hid (Wr (fun k => some k = (Value.slice (some ⟨g, 0, none⟩) s.size cap).ownBlock) w (w.drew.freeze ⟨g, 0, none⟩ s.size)) := by
    have h1 : Wr (fun k => some k = (Value.slice (some ⟨g, 0, none⟩) s.size cap).ownBlock) w w.drew := Wr.here (Below.refl _ _).drew
    exact h1.trans ((freeze_wr (w := w.drew) (g := g) (n := s.size)).mono (fun k _ h => by subst h; rfl))
  clear hB h1 hown hg hcs htake hl0
  go_enter Tryd.func46, Tryd.ntmps46
  go_wp2
  go_region
  all_goals (go_wp2; go_ret; exact ⟨rfl, HW.out⟩)

/-- a writer at block wb: what it has written lies in rows of its own -/
structure Wt (base wb : Nat) (w : World) (s : WS) (outv p bufv : Value) : Prop where
  blk : Blk w wb #[outv, p, bufv, .int .i64 s.drop] 107
  p : p = .pointer none ∨ p = .pointer (some ⟨wb, 1, none⟩)
  out : w.ownsRow base 61 3 outv s.out.length (cellsOf s.out)
  buf : w.ownsRow base 5 1 bufv s.add.size (Lib.strCells s.add)
  bb : base ≤ wb
  bw : base ≤ w.heap.size
theorem Wt.here {base wb : Nat} {w w' : World} {s : WS} {outv p bufv : Value} (W : Wt base wb w s outv p bufv) (h : Below w.heap.size w w') : Wt base wb w' s outv p bufv :=
  ⟨W.blk.here h, W.p, ownsRow_wr (S := fun _ => False) W.out (Wr.here h) (fun _ _ => id), ownsRow_wr (S := fun _ => False) W.buf (Wr.here h) (fun _ _ => id), W.bb, Nat.le_trans W.bw h.size⟩
theorem own_apart {w : World} {base e size n e' size' n' : Nat} {v v' : Value} {xs xs' : List Value} (h : w.ownsRow base e size v n xs) (h' : w.ownsRow base e' size' v' n' xs') (he : e ≠ e') (k : Nat) (hk : v.ownBlock = some k) : v'.ownBlock ≠ some k := by
  rcases h.2 with ⟨rfl, _⟩ | ⟨g, cap, cur, rfl, _, hg, _⟩
  · simp [Value.ownBlock] at hk
  · simp [Value.ownBlock] at hk
    subst hk
    exact own_ne h' (show Blk w g cur e from hg) he
theorem lies107 : liesAt Tryd.prog Tryd.prog.depth 107 ((#[Value.nilIface, Value.nilIface, Value.nilIface, Value.nilIface] : Array Value).size / Tryd.prog.cellsOf 107) 1 87 1 = true := by kernel_rfl

theorem wt_kind {base wb : Nat} {w : World} {s : WS} {outv p bufv : Value} (W : Wt base wb w s outv p bufv) (k : Nat) (h : k = wb ∨ some k = outv.ownBlock ∨ some k = bufv.ownBlock) : base ≤ k ∧ ∀ o, w.heap[k]? = some o → ∃ cs t fr, o = .cells cs t fr ∧ t ∈ [107, 61, 5] := by
  rcases h with h | h | h
  · subst h
    exact ⟨W.bb, fun o ho => by obtain ⟨cs, t, fr, e, ht⟩ := blk_kind W.blk o ho; exact ⟨cs, t, fr, e, by simp [ht]⟩⟩
  · obtain ⟨h1, h2⟩ := own_kind W.out k h
    exact ⟨h1, fun o ho => by obtain ⟨cs, t, fr, e, ht⟩ := h2 o ho; exact ⟨cs, t, fr, e, by simp [ht]⟩⟩
  · obtain ⟨h1, h2⟩ := own_kind W.buf k h
    exact ⟨h1, fun o ho => by obtain ⟨cs, t, fr, e, ht⟩ := h2 o ho; exact ⟨cs, t, fr, e, by simp [ht]⟩⟩

/-- WriteString at the writer's Builder -/
theorem wt_write {base wb : Nat} {w : World} {s : WS} {outv p bufv : Value} (W : Wt base wb w s outv p bufv) (t : ByteArray) (hs : s.add.size + t.size ≤ 140737488355328) :
    Calls Tryd.prog 45 #[.pointer (some ⟨wb, 1, none⟩), .string t] w fun e w' => e = .returned (.tuple #[.int .i64 t.size, .nilIface]) ∧ ∃ p' bufv', Wt base wb w' ⟨s.out, s.add ++ t, s.drop⟩ outv p' bufv' ∧ Fr base [107, 61, 5] w w' := by
  refine (writeString_any wb 1 107 #[outv, p, bufv, .int .i64 s.drop] p bufv s.add.size base (Lib.strCells s.add) t w W.blk rfl rfl W.p (by decide) lies107 W.buf hs W.bw).mono ?_
  rintro e w' ⟨rfl, v', hB, hown, hW⟩
  refine ⟨rfl, .pointer (some ⟨wb, 1, none⟩), v', ⟨hB, Or.inr rfl, ownsRow_wr W.out hW ?_, ?_, W.bb, Nat.le_trans W.bw hW.size⟩, Fr.of_wr hW (fun k h => wt_kind W k (h.elim Or.inl (fun h => Or.inr (Or.inr h))))⟩
  · rintro k hk (h | h)
    · subst h; exact own_ne W.out W.blk (by decide) hk
    · exact own_apart W.out W.buf (by decide) k hk h.symm
  · show w'.ownsRow base 5 1 v' (s.add ++ t).size (Lib.strCells (s.add ++ t))
    rw [ByteArray.size_append, strCells_append]; exact hown
end Go.Proofs.YtdbepogafbagpaaDoor
