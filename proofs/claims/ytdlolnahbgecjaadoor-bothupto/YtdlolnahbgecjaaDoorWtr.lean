import Derived.Test.YtdlolnahbgecjaaDoorBld
import Derived.Test.YtdlolnahbgecjaaDoorShelfB
import Derived.Test.YtdlolnahbgecjaaDoorFitsWalk
import Derived.Test.YtdlolnahbgecjaaDoorPure
namespace Go.Proofs.YtdlolnahbgecjaaDoor
open Go.RowKit
set_option linter.unusedVariables false

/-- Below 'base', and where a block's type is none of ts, w' is as w was. -/
structure Fr (base : Nat) (ts : List TypeId) (w w' : World) : Prop where
  os : w'.os = w.os
  tape : w'.tape = w.tape
  output : w'.output = w.output
  size : w.heap.size ≤ w'.heap.size
  block : ∀ k o, w.heap[k]? = some o → (k < base ∨ ∀ cs t fr, o = .cells cs t fr → t ∉ ts) → w'.heap[k]? = some o
theorem Fr.refl (base : Nat) (ts : List TypeId) (w : World) : Fr base ts w w := ⟨rfl, rfl, rfl, Nat.le_refl _, fun _ _ h _ => h⟩
theorem Fr.trans {base : Nat} {ts : List TypeId} {a b c : World} (h : Fr base ts a b) (k : Fr base ts b c) : Fr base ts a c :=
  ⟨k.os.trans h.os, k.tape.trans h.tape, k.output.trans h.output, Nat.le_trans h.size k.size, fun i o hi hp => k.block i o (h.block i o hi hp) hp⟩
theorem Fr.here {base : Nat} {ts : List TypeId} {w w' : World} (h : Below w.heap.size w w') : Fr base ts w w' :=
  ⟨h.os, h.tape, h.output, h.size, fun k o hk _ => (h.block k (Array.getElem?_eq_some_iff.1 hk).1).trans hk⟩
theorem Fr.of_wr {base : Nat} {ts : List TypeId} {S : Nat → Prop} {w w' : World} (h : Wr S w w') (hS : ∀ k, S k → base ≤ k ∧ ∀ o, w.heap[k]? = some o → ∃ cs t fr, o = .cells cs t fr ∧ t ∈ ts) : Fr base ts w w' :=
  ⟨h.os, h.tape, h.output, h.size, fun k o hk hp => (h.block k (Array.getElem?_eq_some_iff.1 hk).1 (fun hs => by
    obtain ⟨h1, h2⟩ := hS k hs
    rcases hp with hp | hp
    · omega
    · obtain ⟨cs, t, fr, e, ht⟩ := h2 o hk
      exact hp cs t fr e ht)).trans hk⟩
theorem Fr.below {base : Nat} {ts : List TypeId} {w w' : World} (h : Fr base ts w w') (hw : base ≤ w.heap.size) : Below base w w' :=
  ⟨h.os, h.tape, h.output, h.size, fun k hk => by
    have hlt : k < w.heap.size := by omega
    rw [h.block k w.heap[k] (Array.getElem?_eq_getElem hlt) (Or.inl hk), Array.getElem?_eq_getElem hlt]⟩
theorem Blk.fr {base : Nat} {ts : List TypeId} {w w' : World} {b : Nat} {cs : Array Value} {t : TypeId} (h : Blk w b cs t) (f : Fr base ts w w') (ht : t ∉ ts) : Blk w' b cs t :=
  f.block b _ h (Or.inr (fun cs' t' fr e => by simp at e; rw [← e.2.1]; exact ht))

/-- what an owned row's block is -/
theorem own_kind {w : World} {base e size n : Nat} {v : Value} {xs : List Value} (hown : w.ownsRow base e size v n xs) (k : Nat) (hk : some k = v.ownBlock) : base ≤ k ∧ ∀ o, w.heap[k]? = some o → ∃ cs t fr, o = .cells cs t fr ∧ t = e := by
  rcases hown.2 with ⟨rfl, _⟩ | ⟨g, cap, cur, rfl, hb, hg, _⟩
  · simp [Value.ownBlock] at hk
  · simp [Value.ownBlock] at hk
    subst hk
    exact ⟨hb, fun o ho => ⟨cur, e, (0, 0), by rw [hg] at ho; simpa using ho.symm, rfl⟩⟩
theorem blk_kind {w : World} {b : Nat} {cs : Array Value} {t : TypeId} (h : Blk w b cs t) (o : Obj) (ho : w.heap[b]? = some o) : ∃ cs t' fr, o = .cells cs t' fr ∧ t' = t := by
  have : w.heap[b]? = some (.cells cs t (0, 0)) := h
  rw [this] at ho
  exact ⟨cs, t, (0, 0), by simpa using ho.symm, rfl⟩

/-- the variables of 'do': the Builder at block ob, the rest of the text at block tb -/
structure Dn (base ob tb : Nat) (w : World) (done cur : ByteArray) (p v : Value) : Prop where
  o : Blk w ob #[p, v] 87
  t : Blk w tb #[.string cur] 9
  p : p = .pointer none ∨ p = .pointer (some ⟨ob, 0, none⟩)
  own : w.ownsRow base 5 1 v done.size (Lib.strCells done)
  bo : base ≤ ob
  bt : base ≤ tb
  bw : base ≤ w.heap.size

theorem strCells_append (a b : ByteArray) : Lib.strCells (a ++ b) = Lib.strCells a ++ Lib.strCells b := by
  simp [Lib.strCells, ByteArray.data_append]
theorem lies87 : liesAt Tryd.prog Tryd.prog.depth 87 ((#[Value.nilIface, Value.nilIface] : Array Value).size / Tryd.prog.cellsOf 87) 0 87 1 = true := by kernel_rfl

theorem Dn.here {base ob tb : Nat} {w w' : World} {done cur : ByteArray} {p v : Value} (D : Dn base ob tb w done cur p v) (h : Below w.heap.size w w') : Dn base ob tb w' done cur p v :=
  ⟨D.o.here h, D.t.here h, D.p, ownsRow_wr (S := fun _ => False) D.own (Wr.here h) (fun _ _ => id), D.bo, D.bt, Nat.le_trans D.bw h.size⟩

/-- WriteString at the Builder of 'do' -/
theorem dn_write {base ob tb : Nat} {w : World} {done cur : ByteArray} {p v : Value} (D : Dn base ob tb w done cur p v) (s : ByteArray) (hs : done.size + s.size ≤ 140737488355328) :
    Calls Tryd.prog 45 #[.pointer (some ⟨ob, 0, none⟩), .string s] w fun e w' => e = .returned (.tuple #[.int .i64 s.size, .nilIface]) ∧ ∃ p' v', Dn base ob tb w' (done ++ s) cur p' v' ∧ Fr base [87, 9, 5] w w' := by
  refine (writeString_any ob 0 87 #[p, v] p v done.size base (Lib.strCells done) s w D.o rfl rfl D.p (by decide) lies87 D.own hs D.bw).mono ?_
  rintro e w' ⟨rfl, v', hB, hown, hW⟩
  have hne := own_ne D.own D.t (by decide)
  refine ⟨rfl, .pointer (some ⟨ob, 0, none⟩), v', ⟨hB, D.t.wr hW ?_, Or.inr rfl, ?_, D.bo, D.bt, Nat.le_trans D.bw hW.size⟩, Fr.of_wr hW ?_⟩
  · rintro (h | h)
    · exact D.t.ne D.o (by decide) h
    · exact hne h.symm
  · rw [ByteArray.size_append, strCells_append]; exact hown
  · rintro k (h | h)
    · subst h
      exact ⟨D.bo, fun o ho => by obtain ⟨cs, t, fr, e, ht⟩ := blk_kind D.o o ho; exact ⟨cs, t, fr, e, by simp [ht]⟩⟩
    · obtain ⟨h1, h2⟩ := own_kind D.own k h
      exact ⟨h1, fun o ho => by obtain ⟨cs, t, fr, e, ht⟩ := h2 o ho; exact ⟨cs, t, fr, e, by simp [ht]⟩⟩

theorem Dn.setText {base ob tb : Nat} {w : World} {done cur : ByteArray} {p v : Value} (D : Dn base ob tb w done cur p v) (cur' : ByteArray) : Dn base ob tb (w.setCell ⟨tb, 0, none⟩ (.string cur')) done cur' p v ∧ Fr base [87, 9, 5] w (w.setCell ⟨tb, 0, none⟩ (.string cur')) := by
  have hw : Wr (fun k => k = tb) w (w.setCell ⟨tb, 0, none⟩ (.string cur')) := (Wr.refl (fun k => k = tb) w).set (Or.inl rfl) 0 _
  refine ⟨⟨D.o.setOther _ _ (D.o.ne D.t (by decide)), D.t.set 0 _, D.p, ownsRow_setCell_other D.own (own_ne D.own D.t (by decide)) _, D.bo, D.bt, by have := hw.size; have := D.bw; omega⟩, Fr.of_wr hw ?_⟩
  rintro k rfl
  exact ⟨D.bt, fun o ho => by obtain ⟨cs, t, fr, e, ht⟩ := blk_kind D.t o ho; exact ⟨cs, t, fr, e, by simp [ht]⟩⟩

def doneOf (q : Pt) (done cur : ByteArray) (m : Nat) : ByteArray := if q.k = 1 then done ++ cur.extract 0 m else done ++ q.t
def curOf (q : Pt) (cur : ByteArray) (m : Nat) : ByteArray := if q.k = 2 then cur else cur.extract m cur.size

set_option maxRecDepth 100000 in
set_option maxHeartbeats 2000000 in
theorem do1_any (base ob tb : Nat) (q : Pt) (m : Nat) (w : World) (done cur : ByteArray) (p v : Value) (D : Dn base ob tb w done cur p v) (hok : okPt q = true) (hm : q.k ≠ 2 → (m : Int) = q.n ∧ m ≤ cur.size) (hs : done.size + cur.size + q.t.size ≤ 100000000) :
    Calls Tryd.prog 44 #[.agg #[.int .i64 q.k, .int .i64 q.n, .string q.t], .pointer (some ⟨ob, 0, none⟩), .pointer (some ⟨tb, 0, none⟩)] w fun e w' => e = .returned (.tuple #[]) ∧ ∃ p' v', Dn base ob tb w' (doneOf q done cur m) (curOf q cur m) p' v' ∧ Fr base [87, 9, 5] w w' := by
  have HD : Hid (Dn base ob tb w done cur p v) := D
  have ct : w.cell? ⟨tb, 0, none⟩ = some (.string cur) := D.t.cell 0 rfl
  have htl := D.t.lt
  have hcs : cur.size ≤ 100000000 := by omega
  rcases ok_cases hok with ⟨h13, hn, hts⟩ | ⟨h2, hn, hts⟩
  · have hm := hm (by omega)
    have HT : Hid (q.t = ⟨#[]⟩) := empty_of hts
    have HN : Hid ((m : Int) = q.n) := hm.1
    have hm2 := hm.2
    rw [← hm.1]
    have hw0 : Hid (Below w.heap.size w (w.alloc (.cells #[.int .i64 q.k, .int .i64 m, .string q.t] 61))) := (Below.refl _ _).alloc (Nat.le_refl _) _
    have c61 : Hid (Blk (w.alloc (.cells #[.int .i64 q.k, .int .i64 m, .string q.t] 61)) w.heap.size #[.int .i64 q.k, .int .i64 m, .string q.t] 61) := Blk.new w _ 61
    have hes : (cur.extract 0 m).size = m := by rw [ByteArray.size_extract]; omega
    rcases h13 with h1 | h3
    · have k1 : (q.k == 1) = true := by simp [h1]
      have HF1 : Hid (doneOf q done cur m = done ++ cur.extract 0 m) := by show _ = _; unfold doneOf; rw [if_pos h1]
      have HF2 : Hid (curOf q cur m = cur.extract m cur.size) := by show _ = _; unfold curOf; rw [if_neg (by omega)]
      rw [HF1.out, HF2.out]
      have hes' : Hid (done.size + (cur.extract 0 m).size ≤ 140737488355328) := by show _ ≤ _; omega
      clear hok hm h1 D hes hts hn
      go_enter Tryd.func44, Tryd.ntmps44
      go_wp2_with fail
      refine (dn_write (HD.out.here hw0.out) (cur.extract 0 m) hes'.out).mono ?_
      rintro e w1 ⟨rfl, p1, v1, D1, F1⟩
      have HD1 : Hid (Dn base ob tb w1 (done ++ cur.extract 0 m) cur p1 v1) := D1
      have ct1 : w1.cell? ⟨tb, 0, none⟩ = some (.string cur) := D1.t.cell 0 rfl
      have ft1 := D1.t.free 0
      have q61 : Hid (Blk w1 w.heap.size #[.int .i64 q.k, .int .i64 m, .string q.t] 61) := c61.out.fr F1 (by decide)
      have q1 : w1.cell? ⟨w.heap.size, 1, none⟩ = some (.int .i64 m) := q61.out.cell 1 rfl
      have HF : Hid (Fr base [87, 9, 5] w w1) := (Fr.here hw0.out).trans F1
      clear D1 F1
      go_wp2
      go_end0
      obtain ⟨D2, F2⟩ := HD1.out.setText (cur.extract m cur.size)
      exact ⟨rfl, p1, v1, D2, HF.out.trans F2⟩
    · have k1 : (q.k == 1) = false := by simp [h3]
      have k3 : (q.k == 3) = true := by simp [h3]
      have HF1 : Hid (doneOf q done cur m = done) := by show _ = _; unfold doneOf; rw [if_neg (by omega), HT.out, append_empty]
      have HF2 : Hid (curOf q cur m = cur.extract m cur.size) := by show _ = _; unfold curOf; rw [if_neg (by omega)]
      rw [HF1.out, HF2.out]
      have ft : ∀ o, (w.alloc o).frozen? ⟨tb, 0, none⟩ = false := fun o => (D.t.alloc o).free 0
      have ct' : ∀ o, (w.alloc o).cell? ⟨tb, 0, none⟩ = some (.string cur) := fun o => (D.t.alloc o).cell 0 rfl
      clear hok hm h3 D hes hts hn
      go_enter Tryd.func44, Tryd.ntmps44
      go_wp2
      go_end0
      obtain ⟨D2, F2⟩ := HD.out.setText (cur.extract m cur.size)
      have hb := (Below.refl _ (w.setCell ⟨tb, 0, none⟩ (.string (cur.extract m cur.size)))).alloc (Nat.le_refl _) (.cells #[.int .i64 q.k, .int .i64 m, .string q.t] 61)
      exact ⟨rfl, p, v, D2.here hb, F2.trans (Fr.here hb)⟩
  · have k1 : (q.k == 1) = false := by simp [h2]
    have k3 : (q.k == 3) = false := by simp [h2]
    have k2 : (q.k == 2) = true := by simp [h2]
    have hw0 : Hid (Below w.heap.size w (w.alloc (.cells #[.int .i64 q.k, .int .i64 q.n, .string q.t] 61))) := (Below.refl _ _).alloc (Nat.le_refl _) _
    have HF1 : Hid (doneOf q done cur m = done ++ q.t) := by show _ = _; unfold doneOf; rw [if_neg (by omega)]
    have HF2 : Hid (curOf q cur m = cur) := by show _ = _; unfold curOf; rw [if_pos h2]
    rw [HF1.out, HF2.out]
    have hes' : Hid (done.size + q.t.size ≤ 140737488355328) := by show _ ≤ _; omega
    clear hok hm h2 D hts hn
    go_enter Tryd.func44, Tryd.ntmps44
    go_wp2_with fail
    refine (dn_write (HD.out.here hw0.out) q.t hes'.out).mono ?_
    rintro e w1 ⟨rfl, p1, v1, D1, F1⟩
    have HF : Hid (Fr base [87, 9, 5] w w1) := (Fr.here hw0.out).trans F1
    clear F1
    go_wp2
    go_end0
    exact ⟨rfl, p1, v1, D1, HF.out⟩
end Go.Proofs.YtdlolnahbgecjaaDoor
namespace Go.Proofs.YtdlolnahbgecjaaDoor
open Go.RowKit
set_option linter.unusedVariables false

/-- how many bytes of the text the first k parts go over -/
def atTo (ps : List Pt) : Nat → Nat
  | 0 => 0
  | k + 1 => atTo ps k + (nth ps k).n.toNat
/-- what is done behind k parts, and what is left of the text -/
def doTo (text : ByteArray) (ps : List Pt) : Nat → ByteArray × ByteArray
  | 0 => (⟨#[]⟩, text)
  | k + 1 => (doneOf (nth ps k) (doTo text ps k).1 (doTo text ps k).2 (nth ps k).n.toNat, curOf (nth ps k) (doTo text ps k).2 (nth ps k).n.toNat)

theorem at_from {ps : List Pt} (hn : ∀ i, 0 ≤ (nth ps i).n) : ∀ (k : Nat) (r : Int), fromTo ps k = some r → (atTo ps k : Int) = r
  | 0, r, h => by simp [fromTo] at h; simp [atTo, h]
  | k + 1, r, h => by
    obtain ⟨s, hs, hr, _⟩ := fromTo_part h
    have := at_from hn k s hs
    have := hn k
    simp only [atTo]; omega
theorem at_mono (ps : List Pt) {i j : Nat} (h : i ≤ j) : atTo ps i ≤ atTo ps j := by
  induction j with
  | zero => simp [show i = 0 by omega]
  | succ j ih =>
    by_cases e : i = j + 1
    · subst e; exact Nat.le_refl _
    · have := ih (by omega); simp only [atTo]; omega

/-- what is asked of a change that fits the text -/
structure Fits (ps : List Pt) (text : ByteArray) : Prop where
  lst : Lst ps
  fit : fromTo ps ps.length = some (text.size : Int)
  tsz : text.size ≤ 1048576
theorem Fits.nn {ps : List Pt} {text : ByteArray} (F : Fits ps text) (i : Nat) : 0 ≤ (nth ps i).n := by
  by_cases hi : i < ps.length
  · exact ok_n (good_nth F.lst.good i hi)
  · simp [nth, List.getD, List.getElem?_eq_none (by omega : ps.length ≤ i)]
theorem Fits.at_le {ps : List Pt} {text : ByteArray} (F : Fits ps text) (k : Nat) (hk : k ≤ ps.length) : atTo ps k ≤ text.size := by
  have h := at_from F.nn _ _ F.fit
  have := at_mono ps hk
  omega
theorem Fits.cur {ps : List Pt} {text : ByteArray} (F : Fits ps text) : ∀ k, k ≤ ps.length → (doTo text ps k).2 = text.extract (atTo ps k) text.size
  | 0, _ => by simp [doTo, atTo]
  | k + 1, hk => by
    have ih := F.cur k (by omega)
    have hok := good_nth F.lst.good k (by omega)
    have hle := F.at_le (k + 1) hk
    simp only [doTo, atTo, curOf] at *
    rcases ok_cases hok with ⟨h, _, _⟩ | ⟨h, h', _⟩
    · rw [if_neg (by omega), ih, ByteArray.extract_extract, ByteArray.size_extract]
      congr 1
      omega
    · rw [if_pos h, ih, h']; simp
theorem Fits.sizes {ps : List Pt} {text : ByteArray} (F : Fits ps text) : ∀ k, k ≤ ps.length → (doTo text ps k).1.size + (doTo text ps k).2.size ≤ text.size + textTo ps k
  | 0, _ => by simp only [doTo, textTo]; show 0 + text.size ≤ _; omega
  | k + 1, hk => by
    have ih := F.sizes k (by omega)
    have hok := good_nth F.lst.good k (by omega)
    have hle := F.at_le (k + 1) hk
    have hc := F.cur k (by omega)
    have hcs : (doTo text ps k).2.size = text.size - atTo ps k := by rw [hc, ByteArray.size_extract]; omega
    simp only [doTo, textTo, doneOf, curOf, atTo] at *
    rcases ok_cases hok with ⟨h, _, h''⟩ | ⟨h, h', _⟩
    · rw [if_neg (show ¬ (nth ps k).k = 2 by omega)]
      split
      · rw [ByteArray.size_append, ByteArray.size_extract, ByteArray.size_extract]; omega
      · rw [ByteArray.size_append, ByteArray.size_extract]; omega
    · rw [if_neg (by omega), if_pos h, ByteArray.size_append]; omega
end Go.Proofs.YtdlolnahbgecjaaDoor
namespace Go.Proofs.YtdlolnahbgecjaaDoor
open Go.RowKit
set_option linter.unusedVariables false

theorem Fr.mono {base : Nat} {ts us : List TypeId} {w w' : World} (h : Fr base ts w w') (hs : ∀ t, t ∈ ts → t ∈ us) : Fr base us w w' :=
  ⟨h.os, h.tape, h.output, h.size, fun k o hk hp => h.block k o hk (hp.elim Or.inl (fun h' => Or.inr (fun cs t fr e ht => h' cs t fr e (hs t ht))))⟩
theorem At.fr {base : Nat} {ts : List TypeId} {w w' : World} {b off : Nat} {ps : List Pt} (h : At w b off ps) (f : Fr base ts w w') (hw : base ≤ w.heap.size) (hb : 0 < ps.length → b < base) : At w' b off ps := h.below (f.below hw) hb

set_option maxRecDepth 100000 in
set_option maxHeartbeats 2000000 in
theorem eachDo_pos (base ob tb rb b off cap : Nat) (ps : List Pt) (text : ByteArray) (F : Fits ps text) (w : World) (p v : Value) (D : Dn base ob tb w ⟨#[]⟩ text p v)
    (A : At w b off ps) (hb : b < base) (hbr : base ≤ rb) (R : Rd w rb (.slice (some ⟨b, off, none⟩) ps.length cap) 0 0) :
    Calls Tryd.prog 43 #[.pointer (some ⟨rb, 0, none⟩), .func (.func 44) #[] #[.pointer (some ⟨ob, 0, none⟩), .pointer (some ⟨tb, 0, none⟩)]] w fun e w' => e = .returned (.tuple #[]) ∧ ∃ p' v', Dn base ob tb w' (doTo text ps ps.length).1 (doTo text ps ps.length).2 p' v' ∧ Fr base [87, 9, 5, 110] w w' := by
  have L := F.lst
  have hlen := L.len
  have htx := L.text
  have htz := F.tsz
  have Hst : Hid (Dn base ob tb w ⟨#[]⟩ text p v ∧ Rd w rb (.slice (some ⟨b, off, none⟩) ps.length cap) 0 0 ∧ At w b off ps) := ⟨D, R, A⟩
  clear D R A
  go_enter Tryd.func43, Tryd.ntmps43
  go_wp2
  go_loopg [4] ps.length (fun j u wr => ∃ k : Nat, k + j = ps.length ∧ ∃ p' v', Dn base ob tb wr (doTo text ps k).1 (doTo text ps k).2 p' v' ∧ Rd wr rb (.slice (some ⟨b, off, none⟩) ps.length cap) k 0 ∧ At wr b off ps ∧ Fr base [87, 9, 5, 110] w wr)
  case atStart => exact ⟨0, by omega, p, v, Hst.out.1, Hst.out.2.1, Hst.out.2.2, Fr.refl _ _ _⟩
  case round =>
    obtain ⟨k, hk, p', v', D, R, A, W⟩ := hrel
    have HD : Hid (Dn base ob tb wr (doTo text ps k).1 (doTo text ps k).2 p' v') := D
    have HR : Hid (Rd wr rb (.slice (some ⟨b, off, none⟩) ps.length cap) k 0) := R
    have HA : Hid (At wr b off ps) := A
    have HW : Hid (Fr base [87, 9, 5, 110] w wr) := W
    have hbs : base ≤ wr.heap.size := D.bw
    have hbw : b < wr.heap.size := by omega
    have HK : Hid (k + gk = ps.length) := hk
    clear D R A W hk
    by_cases hlt : k < ps.length
    · have hok := good_nth L.good k hlt
      have hts := size_le_text ps k hlt
      have hz := psz_ok hok (L.num k) (by omega)
      obtain ⟨m, hm⟩ : ∃ m : Nat, (m : Int) = psz (nth ps k) := ⟨(psz (nth ps k)).toNat, by omega⟩
      have HC : Hid (cut (nth ps k) 0 m = nth ps k) := cut_full hok m hm
      have hkz := (ok_pos hok).2
      have HRest : Hid (∀ wx, At wx b off ps → b < wx.heap.size → Rd wx rb (.slice (some ⟨b, off, none⟩) ps.length cap) k 0 → Calls Tryd.prog 61 #[.pointer (some ⟨rb, 0, none⟩)] wx fun e w' => e = .returned (.agg #[.int .i64 (nth ps k).k, .int .i64 (nth ps k).n, .string (nth ps k).t]) ∧ Only rb wx w' ∧ Rd w' rb (.slice (some ⟨b, off, none⟩) ps.length cap) ((k : Int) + 1) 0) := fun wx Ax hbx Rx => by
        have := rest_any ps b off cap rb k 0 m wx Ax hbx hlt hlen Rx (by omega) hok (by simpa using hm) hz.2
        rwa [HC.out] at this
      have HKind : Hid (∀ wx, At wx b off ps → b < wx.heap.size → Rd wx rb (.slice (some ⟨b, off, none⟩) ps.length cap) k 0 → Calls Tryd.prog 60 #[.pointer (some ⟨rb, 0, none⟩)] wx fun e w' => e = .returned (.int .i64 (nth ps k).k) ∧ Below wx.heap.size wx w') := fun wx Ax hbx Rx => kind_in ps b off cap rb k 0 wx Ax hbx hlt Rx
      have HClos : Hid (∀ wx, Dn base ob tb wx (doTo text ps k).1 (doTo text ps k).2 p' v' → Calls Tryd.prog 44 #[.agg #[.int .i64 (nth ps k).k, .int .i64 (nth ps k).n, .string (nth ps k).t], .pointer (some ⟨ob, 0, none⟩), .pointer (some ⟨tb, 0, none⟩)] wx fun e w' => e = .returned (.tuple #[]) ∧ ∃ p' v', Dn base ob tb w' (doTo text ps (k + 1)).1 (doTo text ps (k + 1)).2 p' v' ∧ Fr base [87, 9, 5] wx w') := fun wx Dx => by
        have h1 := F.sizes k (by omega)
        have h2 := textTo_le ps (show k ≤ ps.length by omega)
        have h3 := F.at_le (k + 1) (by omega)
        have h4 := F.cur k (by omega)
        have h5 : (doTo text ps k).2.size = text.size - atTo ps k := by rw [h4, ByteArray.size_extract]; omega
        have h6 := F.nn k
        simp only [atTo] at h3
        exact do1_any base ob tb (nth ps k) (nth ps k).n.toNat wx _ _ p' v' Dx hok (fun _ => ⟨by omega, by omega⟩) (by omega)
      clear hm hz hts hok HC
      generalize nth ps k = q at *
      go_wp2_with fail
      refine (HKind.out wr HA.out hbw HR.out).mono ?_
      rintro e w1 ⟨rfl, hb1⟩
      have HA1 : Hid (At w1 b off ps) := HA.out.below hb1 (fun _ => hbw)
      have HR1 : Hid (Rd w1 rb (.slice (some ⟨b, off, none⟩) ps.length cap) k 0) := HR.out.below hb1 HR.out.lt
      have hbw1 : b < w1.heap.size := Nat.lt_of_lt_of_le hbw hb1.size
      go_wp2_with fail
      refine (HRest.out w1 HA1.out hbw1 HR1.out).mono ?_
      rintro e w2 ⟨rfl, ho, R2⟩
      have HR2 : Hid (Rd w2 rb (.slice (some ⟨b, off, none⟩) ps.length cap) ((k : Int) + 1) 0) := R2
      have hbR : Blk wr rb #[.slice (some ⟨b, off, none⟩) ps.length cap, .int .i64 k, .int .i64 0] 110 := HR.out
      have HW2 : Hid (Wr (fun x => x = rb) wr w2) := (Wr.here hb1).trans (Wr.only ho rfl)
      have HD2 : Hid (Dn base ob tb w2 (doTo text ps k).1 (doTo text ps k).2 p' v') :=
        ⟨HD.out.o.wr HW2.out (HD.out.o.ne hbR (by decide)), HD.out.t.wr HW2.out (HD.out.t.ne hbR (by decide)), HD.out.p, ownsRow_wr HD.out.own HW2.out (fun x hx (e : x = rb) => own_ne HD.out.own hbR (by decide) (by rw [hx, e])), HD.out.bo, HD.out.bt, Nat.le_trans HD.out.bw HW2.out.size⟩
      have HA2 : Hid (At w2 b off ps) := HA.out.wr HW2.out (fun _ => hbw) (by omega)
      have HF2 : Hid (Fr base [87, 9, 5, 110] wr w2) := Fr.of_wr HW2.out (by rintro x rfl; exact ⟨hbr, fun o ho => by obtain ⟨cs, t, fr, e, ht⟩ := blk_kind hbR o ho; exact ⟨cs, t, fr, e, by simp [ht]⟩⟩)
      clear R2 ho hb1 hbR
      go_wp2_with fail
      refine (HClos.out w2 HD2.out).mono ?_
      rintro e w3 ⟨rfl, p3, v3, D3, F3⟩
      have hb2 : Hid (base ≤ w2.heap.size) := HD2.out.bw
      have fin : Hid (Dn base ob tb w3 (doTo text ps (k + 1)).1 (doTo text ps (k + 1)).2 p3 v3 ∧ Rd w3 rb (.slice (some ⟨b, off, none⟩) ps.length cap) ((k + 1 : Nat) : Int) 0 ∧ At w3 b off ps ∧ Fr base [87, 9, 5, 110] w w3) :=
        ⟨D3, Blk.fr HR2.out F3 (by decide), HA2.out.fr F3 hb2.out (fun _ => hb), (HW.out.trans HF2.out).trans (F3.mono (by simp +contextual))⟩
      clear D3 F3
      go_wp2
      go_roundg (gk - 1)
      case measure => have := HK.out; omega
      case rel => exact ⟨k + 1, by have := HK.out; omega, p3, v3, fin.out⟩
    · have hke : Hid (ps.length ≤ k) := by have := HK.out; show _ ≤ _; omega
      have hkl : Hid (k = ps.length) := by have := HK.out; show _ = _; omega
      go_wp2_with (go_at_call 60; refine (kind_out ps.length (some ⟨b, off, none⟩) cap rb k 0 wr hke.out HR.out).mono ?_; rintro e w1 ⟨rfl, hb1⟩)
      go_end0
      refine ⟨rfl, p', v', ?_, HW.out.trans (Fr.here hb1)⟩
      have h := HD.out.here hb1
      rwa [hkl.out] at h

theorem eachDo_any (base ob tb rb b off cap : Nat) (ao : Option Addr) (ps : List Pt) (text : ByteArray) (F : Fits ps text) (w : World) (p v : Value) (D : Dn base ob tb w ⟨#[]⟩ text p v)
    (hao : 0 < ps.length → ao = some ⟨b, off, none⟩) (A : At w b off ps) (hb : 0 < ps.length → b < base) (hbr : base ≤ rb) (R : Rd w rb (.slice ao ps.length cap) 0 0) :
    Calls Tryd.prog 43 #[.pointer (some ⟨rb, 0, none⟩), .func (.func 44) #[] #[.pointer (some ⟨ob, 0, none⟩), .pointer (some ⟨tb, 0, none⟩)]] w fun e w' => e = .returned (.tuple #[]) ∧ ∃ p' v', Dn base ob tb w' (doTo text ps ps.length).1 (doTo text ps ps.length).2 p' v' ∧ Fr base [87, 9, 5, 110] w w' := by
  rcases Nat.eq_zero_or_pos ps.length with hz | hz
  · refine (each_zero ps.length ao cap rb _ w hz R).mono ?_
    rintro e w1 ⟨rfl, hb1⟩
    refine ⟨rfl, p, v, ?_, Fr.here hb1⟩
    rw [hz]
    exact D.here hb1
  · obtain rfl := hao hz
    exact eachDo_pos base ob tb rb b off cap ps text F w p v D A (hb hz) hbr R
end Go.Proofs.YtdlolnahbgecjaaDoor
namespace Go.Proofs.YtdlolnahbgecjaaDoor
open Go.RowKit
set_option linter.unusedVariables false

theorem Tryd.cells5 : Tryd.prog.cellsOf 5 = 1 := by kernel_rfl

theorem freeze_wr {w : World} {g n : Nat} : Wr (fun k => k = g) w (w.freeze ⟨g, 0, none⟩ n) := by
  unfold World.freeze
  split
  · exact Wr.refl _ _
  · exact ⟨rfl, rfl, rfl, by simp, fun k _ hk => by
      simp only [Array.getElem?_modify]
      rw [if_neg (fun e => hk e.symm)]⟩

set_option maxHeartbeats 1000000 in
set_option maxRecDepth 100000 in
/-- String of a Builder that holds at least one byte -/
theorem string_at (b o T base : Nat) (cs : Array Value) (v : Value) (s : ByteArray) (w : World) (hB : Blk w b cs T) (h1 : cs[o + 1]? = some v) (hown : w.ownsRow base 5 1 v s.size (Lib.strCells s)) (hs : 0 < s.size) :
    Calls Tryd.prog 46 #[.pointer (some ⟨b, o, none⟩)] w fun e w' => e = .returned (.string s) ∧ Wr (fun k => some k = v.ownBlock) w w' := by
  have hl0 : s.data.toList ≠ [] := by
    intro h
    have : s.data.toList.length = 0 := by rw [h]; rfl
    rw [Array.length_toList] at this
    have e : s.size = s.data.size := rfl
    omega
  have hlen : s.data.toList.length = s.size := by rw [Array.length_toList]; rfl
  obtain ⟨g, cap, cur, rfl, hbg, hg, hnc, hcm, hcs, htake⟩ : ∃ g cap cur, v = .slice (some ⟨g, 0, none⟩) s.size cap ∧ base ≤ g ∧ w.heap[g]? = some (.cells cur 5 (0, 0)) ∧ s.size ≤ cap ∧ cap ≤ maxLen ∧ cur.size = cap * 1 ∧ cur.toList.take (s.size * 1) = Lib.strCells s := by
    rcases hown.2 with ⟨_, hz⟩ | ⟨g, cap, cur, hv, r⟩
    · omega
    · exact ⟨g, cap, cur, hv, r⟩
  have c1 : w.drew.cell? ⟨b, o + 1, none⟩ = some (.slice (some ⟨g, 0, none⟩) s.size cap) := hB.drew.cell (o + 1) h1
  have c1' : w.cell? ⟨b, o + 1, none⟩ = some (.slice (some ⟨g, 0, none⟩) s.size cap) := hB.cell (o + 1) h1
  have hSD : (Builtin.unsafeSliceData_ #[85] 113 #[.slice (some ⟨g, 0, none⟩) s.size cap]).run Tryd.prog w.drew = .ok (.pointer (some ⟨g, 0, none⟩)) w.drew :=
    Lib.run_unsafeSliceData_row _ _ _ _ _ _ (by omega)
  have hUS : (Builtin.unsafeString_ #[113, 3] 9 #[.pointer (some ⟨g, 0, none⟩), .int .i64 s.size]).run Tryd.prog w.drew = .ok (.string s) (w.drew.freeze ⟨g, 0, none⟩ s.size) := by
    have := Lib.run_unsafeString_row w.drew 113 3 9 5 Tryd.underlying113 Tryd.cells5 g cur.size (by have hg' : w.drew.heap[g]? = some (.cells cur 5 (0, 0)) := hg; simp [World.shape?, hg']) s.data.toList hl0 (by omega) (by unfold maxLen at hcm; omega) (by
      intro j x hx
      exact hown.cells (g := g) rfl j (.int .u8 x.toNat) (by simp [Lib.strCells, hx]))
    rw [hlen] at this
    exact this
  have HW : Hid (Wr (fun k => some k = (Value.slice (some ⟨g, 0, none⟩) s.size cap).ownBlock) w (w.drew.freeze ⟨g, 0, none⟩ s.size)) := by
    have h1 : Wr (fun k => some k = (Value.slice (some ⟨g, 0, none⟩) s.size cap).ownBlock) w w.drew := Wr.here (Below.refl _ _).drew
    exact h1.trans ((freeze_wr (w := w.drew) (g := g) (n := s.size)).mono (fun k _ h => by subst h; rfl))
  clear hB h1 hown hg hcs htake hl0
  go_enter Tryd.func46, Tryd.ntmps46
  go_wp2
  go_region
  all_goals (go_wp2; go_ret; exact ⟨rfl, HW.out⟩)

/-- a writer at block wb: what it has written lies in rows of its own -/
structure Wt (base wb : Nat) (w : World) (s : WS) (outv p bufv : Value) : Prop where
  blk : Blk w wb #[outv, p, bufv, .int .i64 s.drop] 107
  p : p = .pointer none ∨ p = .pointer (some ⟨wb, 1, none⟩)
  out : w.ownsRow base 61 3 outv s.out.length (cellsOf s.out)
  buf : w.ownsRow base 5 1 bufv s.add.size (Lib.strCells s.add)
  bb : base ≤ wb
  bw : base ≤ w.heap.size
theorem Wt.here {base wb : Nat} {w w' : World} {s : WS} {outv p bufv : Value} (W : Wt base wb w s outv p bufv) (h : Below w.heap.size w w') : Wt base wb w' s outv p bufv :=
  ⟨W.blk.here h, W.p, ownsRow_wr (S := fun _ => False) W.out (Wr.here h) (fun _ _ => id), ownsRow_wr (S := fun _ => False) W.buf (Wr.here h) (fun _ _ => id), W.bb, Nat.le_trans W.bw h.size⟩
theorem own_apart {w : World} {base e size n e' size' n' : Nat} {v v' : Value} {xs xs' : List Value} (h : w.ownsRow base e size v n xs) (h' : w.ownsRow base e' size' v' n' xs') (he : e ≠ e') (k : Nat) (hk : v.ownBlock = some k) : v'.ownBlock ≠ some k := by
  rcases h.2 with ⟨rfl, _⟩ | ⟨g, cap, cur, rfl, _, hg, _⟩
  · simp [Value.ownBlock] at hk
  · simp [Value.ownBlock] at hk
    subst hk
    exact own_ne h' (show Blk w g cur e from hg) he
theorem lies107 : liesAt Tryd.prog Tryd.prog.depth 107 ((#[Value.nilIface, Value.nilIface, Value.nilIface, Value.nilIface] : Array Value).size / Tryd.prog.cellsOf 107) 1 87 1 = true := by kernel_rfl

theorem wt_kind {base wb : Nat} {w : World} {s : WS} {outv p bufv : Value} (W : Wt base wb w s outv p bufv) (k : Nat) (h : k = wb ∨ some k = outv.ownBlock ∨ some k = bufv.ownBlock) : base ≤ k ∧ ∀ o, w.heap[k]? = some o → ∃ cs t fr, o = .cells cs t fr ∧ t ∈ [107, 61, 5] := by
  rcases h with h | h | h
  · subst h
    exact ⟨W.bb, fun o ho => by obtain ⟨cs, t, fr, e, ht⟩ := blk_kind W.blk o ho; exact ⟨cs, t, fr, e, by simp [ht]⟩⟩
  · obtain ⟨h1, h2⟩ := own_kind W.out k h
    exact ⟨h1, fun o ho => by obtain ⟨cs, t, fr, e, ht⟩ := h2 o ho; exact ⟨cs, t, fr, e, by simp [ht]⟩⟩
  · obtain ⟨h1, h2⟩ := own_kind W.buf k h
    exact ⟨h1, fun o ho => by obtain ⟨cs, t, fr, e, ht⟩ := h2 o ho; exact ⟨cs, t, fr, e, by simp [ht]⟩⟩

/-- WriteString at the writer's Builder -/
theorem wt_write {base wb : Nat} {w : World} {s : WS} {outv p bufv : Value} (W : Wt base wb w s outv p bufv) (t : ByteArray) (hs : s.add.size + t.size ≤ 140737488355328) :
    Calls Tryd.prog 45 #[.pointer (some ⟨wb, 1, none⟩), .string t] w fun e w' => e = .returned (.tuple #[.int .i64 t.size, .nilIface]) ∧ ∃ p' bufv', Wt base wb w' ⟨s.out, s.add ++ t, s.drop⟩ outv p' bufv' ∧ Fr base [107, 61, 5] w w' := by
  refine (writeString_any wb 1 107 #[outv, p, bufv, .int .i64 s.drop] p bufv s.add.size base (Lib.strCells s.add) t w W.blk rfl rfl W.p (by decide) lies107 W.buf hs W.bw).mono ?_
  rintro e w' ⟨rfl, v', hB, hown, hW⟩
  refine ⟨rfl, .pointer (some ⟨wb, 1, none⟩), v', ⟨hB, Or.inr rfl, ownsRow_wr W.out hW ?_, ?_, W.bb, Nat.le_trans W.bw hW.size⟩, Fr.of_wr hW (fun k h => wt_kind W k (h.elim Or.inl (fun h => Or.inr (Or.inr h))))⟩
  · rintro k hk (h | h)
    · subst h; exact own_ne W.out W.blk (by decide) hk
    · exact own_apart W.out W.buf (by decide) k hk h.symm
  · show w'.ownsRow base 5 1 v' (s.add ++ t).size (Lib.strCells (s.add ++ t))
    rw [ByteArray.size_append, strCells_append]; exact hown
end Go.Proofs.YtdlolnahbgecjaaDoor
