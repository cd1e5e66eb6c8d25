import Derived.Test.YtdbepogafbagpaaDoorBld
import Derived.Test.YtdbepogafbagpaaDoorShelfB
import Derived.Test.YtdbepogafbagpaaDoorSizeAll
import Derived.Test.YtdbepogafbagpaaDoorPure
namespace Go.Proofs.YtdbepogafbagpaaDoor
open Go.RowKit
set_option linter.unusedVariables false

/-- Below 'base', and where a block's type is none of ts, w' is as w was. -/
structure Fr (base : Nat) (ts : List TypeId) (w w' : World) : Prop where
  os : w'.os = w.os
  tape : w'.tape = w.tape
  output : w'.output = w.output
  size : w.heap.size ≤ w'.heap.size
  block : ∀ k o, w.heap[k]? = some o → (k < base ∨ ∀ cs t fr, o = .cells cs t fr → t ∉ ts) → w'.heap[k]? = some o
theorem Fr.refl (base : Nat) (ts : List TypeId) (w : World) : Fr base ts w w := ⟨rfl, rfl, rfl, Nat.le_refl _, fun _ _ h _ => h⟩
theorem Fr.trans {base : Nat} {ts : List TypeId} {a b c : World} (h : Fr base ts a b) (k : Fr base ts b c) : Fr base ts a c :=
  ⟨k.os.trans h.os, k.tape.trans h.tape, k.output.trans h.output, Nat.le_trans h.size k.size, fun i o hi hp => k.block i o (h.block i o hi hp) hp⟩
theorem Fr.here {base : Nat} {ts : List TypeId} {w w' : World} (h : Below w.heap.size w w') : Fr base ts w w' :=
  ⟨h.os, h.tape, h.output, h.size, fun k o hk _ => (h.block k (Array.getElem?_eq_some_iff.1 hk).1).trans hk⟩
theorem Fr.of_wr {base : Nat} {ts : List TypeId} {S : Nat → Prop} {w w' : World} (h : Wr S w w') (hS : ∀ k, S k → base ≤ k ∧ ∀ o, w.heap[k]? = some o → ∃ cs t fr, o = .cells cs t fr ∧ t ∈ ts) : Fr base ts w w' :=
  ⟨h.os, h.tape, h.output, h.size, fun k o hk hp => (h.block k (Array.getElem?_eq_some_iff.1 hk).1 (fun hs => by
    obtain ⟨h1, h2⟩ := hS k hs
    rcases hp with hp | hp
    · omega
    · obtain ⟨cs, t, fr, e, ht⟩ := h2 o hk
      exact hp cs t fr e ht)).trans hk⟩
theorem Fr.below {base : Nat} {ts : List TypeId} {w w' : World} (h : Fr base ts w w') (hw : base ≤ w.heap.size) : Below base w w' :=
  ⟨h.os, h.tape, h.output, h.size, fun k hk => by
    have hlt : k < w.heap.size := by omega
    rw [h.block k w.heap[k] (Array.getElem?_eq_getElem hlt) (Or.inl hk), Array.getElem?_eq_getElem hlt]⟩
theorem Blk.fr {base : Nat} {ts : List TypeId} {w w' : World} {b : Nat} {cs : Array Value} {t : TypeId} (h : Blk w b cs t) (f : Fr base ts w w') (ht : t ∉ ts) : Blk w' b cs t :=
  f.block b _ h (Or.inr (fun cs' t' fr e => by simp at e; rw [← e.2.1]; exact ht))

/-- what an owned row's block is -/
theorem own_kind {w : World} {base e size n : Nat} {v : Value} {xs : List Value} (hown : w.ownsRow base e size v n xs) (k : Nat) (hk : some k = v.ownBlock) : base ≤ k ∧ ∀ o, w.heap[k]? = some o → ∃ cs t fr, o = .cells cs t fr ∧ t = e := by
  rcases hown.2 with ⟨rfl, _⟩ | ⟨g, cap, cur, rfl, hb, hg, _⟩
  · simp [Value.ownBlock] at hk
  · simp [Value.ownBlock] at hk
    subst hk
    exact ⟨hb, fun o ho => ⟨cur, e, (0, 0), by rw [hg] at ho; simpa using ho.symm, rfl⟩⟩
theorem blk_kind {w : World} {b : Nat} {cs : Array Value} {t : TypeId} (h : Blk w b cs t) (o : Obj) (ho : w.heap[b]? = some o) : ∃ cs t' fr, o = .cells cs t' fr ∧ t' = t := by
  have : w.heap[b]? = some (.cells cs t (0, 0)) := h
  rw [this] at ho
  exact ⟨cs, t, (0, 0), by simpa using ho.symm, rfl⟩

/-- the variables of 'do': the Builder at block ob, the rest of the text at block tb -/
structure Dn (base ob tb : Nat) (w : World) (done cur : ByteArray) (p v : Value) : Prop where
  o : Blk w ob #[p, v] 87
  t : Blk w tb #[.string cur] 9
  p : p = .pointer none ∨ p = .pointer (some ⟨ob, 0, none⟩)
  own : w.ownsRow base 5 1 v done.size (Lib.strCells done)
  bo : base ≤ ob
  bt : base ≤ tb
  bw : base ≤ w.heap.size

theorem strCells_append (a b : ByteArray) : Lib.strCells (a ++ b) = Lib.strCells a ++ Lib.strCells b := by
  simp [Lib.strCells, ByteArray.data_append]
theorem lies87 : liesAt Tryd.prog Tryd.prog.depth 87 ((#[Value.nilIface, Value.nilIface] : Array Value).size / Tryd.prog.cellsOf 87) 0 87 1 = true := by kernel_rfl

theorem Dn.here {base ob tb : Nat} {w w' : World} {done cur : ByteArray} {p v : Value} (D : Dn base ob tb w done cur p v) (h : Below w.heap.size w w') : Dn base ob tb w' done cur p v :=
  ⟨D.o.here h, D.t.here h, D.p, ownsRow_wr (S := fun _ => False) D.own (Wr.here h) (fun _ _ => id), D.bo, D.bt, Nat.le_trans D.bw h.size⟩

/-- WriteString at the Builder of 'do' -/
theorem dn_write {base ob tb : Nat} {w : World} {done cur : ByteArray} {p v : Value} (D : Dn base ob tb w done cur p v) (s : ByteArray) (hs : done.size + s.size ≤ 140737488355328) :
    Calls Tryd.prog 45 #[.pointer (some ⟨ob, 0, none⟩), .string s] w fun e w' => e = .returned (.tuple #[.int .i64 s.size, .nilIface]) ∧ ∃ p' v', Dn base ob tb w' (done ++ s) cur p' v' ∧ Fr base [87, 9, 5] w w' := by
  refine (writeString_any ob 0 87 #[p, v] p v done.size base (Lib.strCells done) s w D.o rfl rfl D.p (by decide) lies87 D.own hs D.bw).mono ?_
  rintro e w' ⟨rfl, v', hB, hown, hW⟩
  have hne := own_ne D.own D.t (by decide)
  refine ⟨rfl, .pointer (some ⟨ob, 0, none⟩), v', ⟨hB, D.t.wr hW ?_, Or.inr rfl, ?_, D.bo, D.bt, Nat.le_trans D.bw hW.size⟩, Fr.of_wr hW ?_⟩
  · rintro (h | h)
    · exact D.t.ne D.o (by decide) h
    · exact hne h.symm
  · rw [ByteArray.size_append, strCells_append]; exact hown
  · rintro k (h | h)
    · subst h
      exact ⟨D.bo, fun o ho => by obtain ⟨cs, t, fr, e, ht⟩ := blk_kind D.o o ho; exact ⟨cs, t, fr, e, by simp [ht]⟩⟩
    · obtain ⟨h1, h2⟩ := own_kind D.own k h
      exact ⟨h1, fun o ho => by obtain ⟨cs, t, fr, e, ht⟩ := h2 o ho; exact ⟨cs, t, fr, e, by simp [ht]⟩⟩

theorem Dn.setText {base ob tb : Nat} {w : World} {done cur : ByteArray} {p v : Value} (D : Dn base ob tb w done cur p v) (cur' : ByteArray) : Dn base ob tb (w.setCell ⟨tb, 0, none⟩ (.string cur')) done cur' p v ∧ Fr base [87, 9, 5] w (w.setCell ⟨tb, 0, none⟩ (.string cur')) := by
  have hw : Wr (fun k => k = tb) w (w.setCell ⟨tb, 0, none⟩ (.string cur')) := (Wr.refl (fun k => k = tb) w).set (Or.inl rfl) 0 _
  refine ⟨⟨D.o.setOther _ _ (D.o.ne D.t (by decide)), D.t.set 0 _, D.p, ownsRow_setCell_other D.own (own_ne D.own D.t (by decide)) _, D.bo, D.bt, by have := hw.size; have := D.bw; omega⟩, Fr.of_wr hw ?_⟩
  rintro k rfl
  exact ⟨D.bt, fun o ho => by obtain ⟨cs, t, fr, e, ht⟩ := blk_kind D.t o ho; exact ⟨cs, t, fr, e, by simp [ht]⟩⟩

def doneOf (q : Pt) (done cur : ByteArray) (m : Nat) : ByteArray := if q.k = 1 then done ++ cur.extract 0 m else done ++ q.t
def curOf (q : Pt) (cur : ByteArray) (m : Nat) : ByteArray := if q.k = 2 then cur else cur.extract m cur.size

set_option maxRecDepth 100000 in
set_option maxHeartbeats 2000000 in
theorem do1_any (base ob tb : Nat) (q : Pt) (m : Nat) (w : World) (done cur : ByteArray) (p v : Value) (D : Dn base ob tb w done cur p v) (hok : okPt q = true) (hm : q.k ≠ 2 → (m : Int) = q.n ∧ m ≤ cur.size) (hs : done.size + cur.size + q.t.size ≤ 100000000) :
    Calls Tryd.prog 44 #[.agg #[.int .i64 q.k, .int .i64 q.n, .string q.t], .pointer (some ⟨ob, 0, none⟩), .pointer (some ⟨tb, 0, none⟩)] w fun e w' => e = .returned (.tuple #[]) ∧ ∃ p' v', Dn base ob tb w' (doneOf q done cur m) (curOf q cur m) p' v' ∧ Fr base [87, 9, 5] w w' := by
  have HD : Hid (Dn base ob tb w done cur p v) := D
  have ct : w.cell? ⟨tb, 0, none⟩ = some (.string cur) := D.t.cell 0 rfl
  have htl := D.t.lt
  have hcs : cur.size ≤ 100000000 := by omega
  rcases ok_cases hok with ⟨h13, hn, hts⟩ | ⟨h2, hn, hts⟩
  · have hm := hm (by omega)
    have HT : Hid (q.t = ⟨#[]⟩) := empty_of hts
    have HN : Hid ((m : Int) = q.n) := hm.1
    have hm2 := hm.2
    rw [← hm.1]
    have hw0 : Hid (Below w.heap.size w (w.alloc (.cells #[.int .i64 q.k, .int .i64 m, .string q.t] 61))) := (Below.refl _ _).alloc (Nat.le_refl _) _
    have c61 : Hid (Blk (w.alloc (.cells #[.int .i64 q.k, .int .i64 m, .string q.t] 61)) w.heap.size #[.int .i64 q.k, .int .i64 m, .string q.t] 61) := Blk.new w _ 61
    have hes : (cur.extract 0 m).size = m := by rw [ByteArray.size_extract]; omega
    rcases h13 with h1 | h3
    · have k1 : (q.k == 1) = true := by simp [h1]
      have HF1 : Hid (doneOf q done cur m = done ++ cur.extract 0 m) := by show _ = _; unfold doneOf; rw [if_pos h1]
      have HF2 : Hid (curOf q cur m = cur.extract m cur.size) := by show _ = _; unfold curOf; rw [if_neg (by omega)]
      rw [HF1.out, HF2.out]
      have hes' : Hid (done.size + (cur.extract 0 m).size ≤ 140737488355328) := by show _ ≤ _; omega
      clear hok hm h1 D hes hts hn
      go_enter Tryd.func44, Tryd.ntmps44
      go_wp2_with fail
      refine (dn_write (HD.out.here hw0.out) (cur.extract 0 m) hes'.out).mono ?_
      rintro e w1 ⟨rfl, p1, v1, D1, F1⟩
      have HD1 : Hid (Dn base ob tb w1 (done ++ cur.extract 0 m) cur p1 v1) := D1
      have ct1 : w1.cell? ⟨tb, 0, none⟩ = some (.string cur) := D1.t.cell 0 rfl
      have ft1 := D1.t.free 0
      have q61 : Hid (Blk w1 w.heap.size #[.int .i64 q.k, .int .i64 m, .string q.t] 61) := c61.out.fr F1 (by decide)
      have q1 : w1.cell? ⟨w.heap.size, 1, none⟩ = some (.int .i64 m) := q61.out.cell 1 rfl
      have HF : Hid (Fr base [87, 9, 5] w w1) := (Fr.here hw0.out).trans F1
      clear D1 F1
      go_wp2
      go_end0
      obtain ⟨D2, F2⟩ := HD1.out.setText (cur.extract m cur.size)
      exact ⟨rfl, p1, v1, D2, HF.out.trans F2⟩
    · have k1 : (q.k == 1) = false := by simp [h3]
      have k3 : (q.k == 3) = true := by simp [h3]
      have HF1 : Hid (doneOf q done cur m = done) := by show _ = _; unfold doneOf; rw [if_neg (by omega), HT.out, append_empty]
      have HF2 : Hid (curOf q cur m = cur.extract m cur.size) := by show _ = _; unfold curOf; rw [if_neg (by omega)]
      rw [HF1.out, HF2.out]
      have ft : ∀ o, (w.alloc o).frozen? ⟨tb, 0, none⟩ = false := fun o => (D.t.alloc o).free 0
      have ct' : ∀ o, (w.alloc o).cell? ⟨tb, 0, none⟩ = some (.string cur) := fun o => (D.t.alloc o).cell 0 rfl
      clear hok hm h3 D hes hts hn
      go_enter Tryd.func44, Tryd.ntmps44
      go_wp2
      go_end0
      obtain ⟨D2, F2⟩ := HD.out.setText (cur.extract m cur.size)
      have hb := (Below.refl _ (w.setCell ⟨tb, 0, none⟩ (.string (cur.extract m cur.size)))).alloc (Nat.le_refl _) (.cells #[.int .i64 q.k, .int .i64 m, .string q.t] 61)
      exact ⟨rfl, p, v, D2.here hb, F2.trans (Fr.here hb)⟩
  · have k1 : (q.k == 1) = false := by simp [h2]
    have k3 : (q.k == 3) = false := by simp [h2]
    have k2 : (q.k == 2) = true := by simp [h2]
    have hw0 : Hid (Below w.heap.size w (w.alloc (.cells #[.int .i64 q.k, .int .i64 q.n, .string q.t] 61))) := (Below.refl _ _).alloc (Nat.le_refl _) _
    have HF1 : Hid (doneOf q done cur m = done ++ q.t) := by show _ = _; unfold doneOf; rw [if_neg (by omega)]
    have HF2 : Hid (curOf q cur m = cur) := by show _ = _; unfold curOf; rw [if_pos h2]
    rw [HF1.out, HF2.out]
    have hes' : Hid (done.size + q.t.size ≤ 140737488355328) := by show _ ≤ _; omega
    clear hok hm h2 D hts hn
    go_enter Tryd.func44, Tryd.ntmps44
    go_wp2_with fail
    refine (dn_write (HD.out.here hw0.out) q.t hes'.out).mono ?_
    rintro e w1 ⟨rfl, p1, v1, D1, F1⟩
    have HF : Hid (Fr base [87, 9, 5] w w1) := (Fr.here hw0.out).trans F1
    clear F1
    go_wp2
    go_end0
    exact ⟨rfl, p1, v1, D1, HF.out⟩
end Go.Proofs.YtdbepogafbagpaaDoor
