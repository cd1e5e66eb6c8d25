import Derived.Test.YtdlolnahbgecjaaDoorJOk
import Derived.Test.YtdlolnahbgecjaaDoorSame
import Derived.Deep.LoopGhost
namespace Go.Proofs.YtdlolnahbgecjaaDoor
open Go.RowKit
set_option linter.unusedVariables false

/-- the slice value v holds the parts l, at block g -/
def Sl (w : World) (v : Value) (l : List Pt) (g : Nat) : Prop := ∃ ao off cap, v = .slice ao l.length cap ∧ l.length ≤ cap ∧ (0 < l.length → ao = some ⟨g, off, none⟩ ∧ g < w.heap.size) ∧ At w g off l
theorem At.tail {w : World} {g off : Nat} {x : Pt} {r : List Pt} (h : At w g off (x :: r)) : At w g (off + 3) r := fun i hi => by
  have := h (i + 1) (by simpa using hi)
  rw [show nth (x :: r) (i + 1) = nth r i by simp [nth], show off + (i + 1) * 3 = off + 3 + i * 3 by omega] at this
  exact this
theorem At.head {w : World} {g off : Nat} {x : Pt} {r : List Pt} (h : At w g off (x :: r)) : w.cell? ⟨g, off, none⟩ = some (.int .i64 x.k) ∧ w.cell? ⟨g, off + 1, none⟩ = some (.int .i64 x.n) ∧ w.cell? ⟨g, off + 2, none⟩ = some (.string x.t) := by
  have := h 0 (by simp)
  rw [Nat.zero_mul, Nat.add_zero] at this
  exact this
theorem Sl.nil (w : World) (ao : Option Addr) (cap g : Nat) : Sl w (.slice ao 0 cap) [] g := ⟨ao, 0, cap, rfl, Nat.zero_le _, fun h => by simp at h, fun i hi => by simp at hi⟩
theorem Sl.wr {w w' : World} {v : Value} {l : List Pt} {g : Nat} {S : Nat → Prop} (h : Sl w v l g) (hw : Wr S w w') (hg : ¬ S g) : Sl w' v l g := by
  obtain ⟨ao, off, cap, hv, hc, hp, ha⟩ := h
  refine ⟨ao, off, cap, hv, hc, fun h0 => ⟨(hp h0).1, Nat.lt_of_lt_of_le (hp h0).2 hw.size⟩, fun i hi => ?_⟩
  have hgl := (hp (by omega)).2
  have hb := hw.block g hgl hg
  obtain ⟨a, b, c⟩ := ha i hi
  have key : ∀ j, w'.cell? ⟨g, j, none⟩ = w.cell? ⟨g, j, none⟩ := fun j => by simp only [World.cell?, hb]
  exact ⟨(key _).trans a, (key _).trans b, (key _).trans c⟩
theorem Sl.here {w w' : World} {v : Value} {l : List Pt} {g : Nat} (h : Sl w v l g) (hb : Below w.heap.size w w') : Sl w' v l g := h.wr (S := fun _ => False) (Wr.here hb) id

set_option maxRecDepth 100000 in
set_option maxHeartbeats 4000000 in
theorem head_all (x : Pt) (r : List Pt) (g off cap : Nat) (n : Int) (w : World) (A : At w g off (x :: r)) (hg : g < w.heap.size) (hl : r.length ≤ 100000000) (hc : r.length + 1 ≤ cap) (hn : x.n ≤ n) :
    Calls Tryd.prog 34 #[.slice (some ⟨g, off, none⟩) (r.length + 1) cap, .int .i64 n] w fun e w' => ∃ v, e = .returned (.tuple #[.agg #[.int .i64 x.k, .int .i64 x.n, .string x.t], v]) ∧ Sl w' v r g ∧ Below w.heap.size w w' := by
  obtain ⟨c0, c1, c2⟩ := A.head
  have HA : Hid (At w g off (x :: r)) := A
  clear A
  have hgne : g ≠ w.heap.size := by omega
  have hgne1 : g ≠ w.heap.size + 1 := by omega
  have hi1 : (0 : Int) < (r.length : Int) + 1 := by omega
  have HB : Hid (Below w.heap.size w ((w.alloc (.cells #[.int .i64 x.k, .int .i64 x.n, .string x.t] 60)).alloc (.cells #[.int .i64 x.k, .int .i64 x.n, .string x.t] 60)).drew) := (((Below.refl _ _).alloc (Nat.le_refl _) _).alloc (by simp) _).drew
  by_cases hc1 : cap = 1
  · have hr : r = [] := List.eq_nil_of_length_eq_zero (by omega)
    subst hr hc1
    clear hc
    go_enter Tryd.func34, Tryd.ntmps34
    go_wp2
    go_region
    go_wp2
    exact bodyPost_ret (v := .tuple #[.agg #[.int .i64 x.k, .int .i64 x.n, .string x.t], .slice (some ⟨g, off, none⟩) 0 0]) (by simp [results, Tryd.results34, go_sem]) rfl ⟨_, rfl, Sl.nil _ _ _ _, HB.out⟩
  · have HC : Hid (r.length ≤ cap - 1) := by show r.length ≤ cap - 1; omega
    go_enter Tryd.func34, Tryd.ntmps34
    go_wp2
    go_region
    go_wp2
    exact bodyPost_ret (v := .tuple #[.agg #[.int .i64 x.k, .int .i64 x.n, .string x.t], .slice (some ⟨g, off + 3, none⟩) r.length (cap - 1)]) (by simp [results, Tryd.results34, go_sem]) rfl ⟨_, rfl, ⟨_, off + 3, _, rfl, HC.out, fun h => ⟨rfl, Nat.lt_of_lt_of_le hg HB.out.size⟩, (HA.out.below HB.out (fun _ => hg)).tail⟩, HB.out⟩

theorem own_one (w : World) (p : Pt) : Own (w.alloc (.cells #[.int .i64 p.k, .int .i64 p.n, .string p.t] 60)) w.heap.size (.slice (some ⟨w.heap.size, 0, none⟩) 1 1) [p] := by
  refine ⟨rfl, Or.inr ⟨w.heap.size, 1, #[.int .i64 p.k, .int .i64 p.n, .string p.t], rfl, Nat.le_refl _, heap_alloc_new w _, Nat.le_refl _, by unfold maxLen; omega, rfl, rfl⟩⟩
theorem Own.sl {w : World} {base : Nat} {v : Value} {l : List Pt} (h : Own w base v l) : ∃ g, Sl w v l g ∧ (0 < l.length → base ≤ g ∧ v.ownBlock = some g) := by
  have h' : w.ownsRow base 60 3 v l.length (cellsOf l) := h
  rcases h'.2 with ⟨hv, h0⟩ | ⟨g, cap, cur, rfl, hb, hg, hc, _⟩
  · have : l = [] := List.eq_nil_of_length_eq_zero h0
    subst this
    exact ⟨0, by rw [hv]; exact Sl.nil _ _ _ _, fun h => by simp at h⟩
  · refine ⟨g, ⟨_, 0, cap, rfl, hc, fun _ => ⟨rfl, (Array.getElem?_eq_some_iff.1 hg).1⟩, fun i hi => ?_⟩, fun _ => ⟨hb, rfl⟩⟩
    have hc := cellsOf_get l i hi
    rw [Nat.zero_add]
    exact ⟨(h'.cellAt _ (by omega)).trans hc.1, (h'.cellAt _ (by omega)).trans hc.2.1, (h'.cellAt _ (by omega)).trans hc.2.2⟩

set_option maxRecDepth 100000 in
set_option maxHeartbeats 4000000 in
theorem head_part (x : Pt) (r : List Pt) (g off cap : Nat) (n : Int) (w : World) (A : At w g off (x :: r)) (hg : g < w.heap.size) (hl : r.length ≤ 100000000) (hn : n < x.n) (h0 : 0 ≤ n) (h1 : x.n ≤ 9223372036854775807) :
    Calls Tryd.prog 34 #[.slice (some ⟨g, off, none⟩) (r.length + 1) cap, .int .i64 n] w fun e w' => ∃ v g', e = .returned (.tuple #[.agg #[.int .i64 x.k, .int .i64 n, .string ⟨#[]⟩], v]) ∧ Sl w' v (⟨x.k, x.n - n, ⟨#[]⟩⟩ :: r) g' ∧ w.heap.size ≤ g' ∧ Below w.heap.size w w' := by
  obtain ⟨i0, hi0, hz0, hz1, hz2⟩ := info_parts Tryd.info60
  obtain ⟨c0, c1, c2⟩ := A.head
  have HA : Hid (At w g off (x :: r)) := A
  clear A
  have hgne : g ≠ w.heap.size := by omega
  have hgne1 : g ≠ w.heap.size + 1 := by omega
  have hi1 : (0 : Int) < (r.length : Int) + 1 := by omega
  go_enter Tryd.func34, Tryd.ntmps34
  go_wp2
  have hs2 : ((w.alloc (.cells #[.int .i64 0, .int .i64 0, .string ⟨#[]⟩] 60)).alloc (.cells #[.int .i64 x.k, .int .i64 x.n, .string x.t] 60)).heap.size = w.heap.size + 2 := by simp
  have hbw2 : Below w.heap.size w ((w.alloc (.cells #[.int .i64 0, .int .i64 0, .string ⟨#[]⟩] 60)).alloc (.cells #[.int .i64 x.k, .int .i64 x.n, .string x.t] 60)) := ((Below.refl _ _).alloc (Nat.le_refl _) _).alloc (by simp) _
  have hZ : Blk ((w.alloc (.cells #[.int .i64 0, .int .i64 0, .string ⟨#[]⟩] 60)).alloc (.cells #[.int .i64 x.k, .int .i64 x.n, .string x.t] 60)) w.heap.size #[.int .i64 0, .int .i64 0, .string ⟨#[]⟩] 60 := (Blk.new w _ 60).alloc _
  have hX : Blk ((w.alloc (.cells #[.int .i64 0, .int .i64 0, .string ⟨#[]⟩] 60)).alloc (.cells #[.int .i64 x.k, .int .i64 x.n, .string x.t] 60)) (w.heap.size + 1) #[.int .i64 x.k, .int .i64 x.n, .string x.t] 60 := by
    have h := Blk.new (w.alloc (.cells #[.int .i64 0, .int .i64 0, .string ⟨#[]⟩] 60)) #[.int .i64 x.k, .int .i64 x.n, .string x.t] 60
    rw [show (w.alloc (.cells #[.int .i64 0, .int .i64 0, .string ⟨#[]⟩] 60)).heap.size = w.heap.size + 1 by simp] at h
    exact h
  have hO := own_one ((w.alloc (.cells #[.int .i64 0, .int .i64 0, .string ⟨#[]⟩] 60)).alloc (.cells #[.int .i64 x.k, .int .i64 x.n, .string x.t] 60)) ⟨x.k, x.n - n, ⟨#[]⟩⟩
  rw [hs2] at hO
  have hB0 : Below (w.heap.size + 2) ((w.alloc (.cells #[.int .i64 0, .int .i64 0, .string ⟨#[]⟩] 60)).alloc (.cells #[.int .i64 x.k, .int .i64 x.n, .string x.t] 60)) (((w.alloc (.cells #[.int .i64 0, .int .i64 0, .string ⟨#[]⟩] 60)).alloc (.cells #[.int .i64 x.k, .int .i64 x.n, .string x.t] 60)).alloc (.cells #[.int .i64 x.k, .int .i64 (x.n - n), .string ⟨#[]⟩] 60)) := (Below.refl _ _).alloc (by simp) _
  generalize ((w.alloc (.cells #[.int .i64 0, .int .i64 0, .string ⟨#[]⟩] 60)).alloc (.cells #[.int .i64 x.k, .int .i64 x.n, .string x.t] 60)) = W at *
  have HW : Hid (Below w.heap.size w W) := hbw2
  have HZ : Hid (Blk W w.heap.size #[.int .i64 0, .int .i64 0, .string ⟨#[]⟩] 60) := hZ
  have HX : Hid (Blk W (w.heap.size + 1) #[.int .i64 x.k, .int .i64 x.n, .string x.t] 60) := hX
  have HO : Hid (Own (W.alloc (.cells #[.int .i64 x.k, .int .i64 (x.n - n), .string ⟨#[]⟩] 60)) (w.heap.size + 2) (.slice (some ⟨w.heap.size + 2, 0, none⟩) 1 1) [⟨x.k, x.n - n, ⟨#[]⟩⟩]) := hO
  have HB : Hid (Below (w.heap.size + 2) W (W.alloc (.cells #[.int .i64 x.k, .int .i64 (x.n - n), .string ⟨#[]⟩] 60))) := hB0
  clear hbw2 hZ hX hO hB0
  go_loopw [7, 8] (fun v i wr => ∃ j : Nat, j ≤ r.length ∧ i = .int .i64 ((j : Int) + 1) ∧ Own wr (w.heap.size + 2) v (⟨x.k, x.n - n, ⟨#[]⟩⟩ :: r.take j) ∧ Below (w.heap.size + 2) W wr) (fun _ i _ => r.length + 1 - (intOf i).toNat)
  case atStart => exact ⟨0, Nat.zero_le _, rfl, by rw [List.take_zero]; exact HO.out, HB.out⟩
  case round =>
    obtain ⟨j, hj, rfl, hown, hbl⟩ := hrel
    have hbw : Below w.heap.size w wr := HW.out.trans (hbl.mono (by omega))
    have hsz := hbl.size
    by_cases hlt : j < r.length
    · obtain ⟨d0, d1, d2⟩ := HA.out (j + 1) (by simp; omega)
      rw [show nth (x :: r) (j + 1) = nth r j by simp [nth]] at d0 d1 d2
      have e0 := (hbw.cell (p := ⟨g, off + (j + 1) * 3, none⟩) hg).trans d0
      have e1 := (hbw.cell (p := ⟨g, off + (j + 1) * 3 + 1, none⟩) hg).trans d1
      have e2 := (hbw.cell (p := ⟨g, off + (j + 1) * 3 + 2, none⟩) hg).trans d2
      have hj0 : (0 : Int) ≤ (j : Int) + 1 := by omega
      have hj1 : (j : Int) + 1 < (r.length : Int) + 1 := by omega
      have HOj : Hid (wr.ownsRow (w.heap.size + 2) 60 3 u7 (j + 1) (cellsOf (⟨x.k, x.n - n, ⟨#[]⟩⟩ :: r.take j))) := by
        have h : wr.ownsRow (w.heap.size + 2) 60 3 u7 (List.length (_ :: r.take j)) _ := hown
        rw [List.length_cons, List.length_take, Nat.min_eq_left hj] at h; exact h
      obtain ⟨ao7, cap7, hu7⟩ := own_slice60 HOj.out
      subst hu7
      have HBl : Hid (Below (w.heap.size + 2) W wr) := hbl
      have hgr : g ≠ wr.heap.size := by omega
      clear c0 c1 c2 d0 d1 d2 hown hbl hbw
      go_wp2_with (at_builtin; refine stopHere ?_)
      unfold Hid
      refine wpList_append_lies _ rfl _ _ _ rfl (w.heap.size + 2) 60 i0 _ 3 32 Tryd.underlying22 hi0 hz0 hz1 hz2 rfl (by omega) (.slice ao7 (j + 1) cap7) (j + 1) (cellsOf (⟨x.k, x.n - n, ⟨#[]⟩⟩ :: r.take j)) rfl (HOj.out.alloc _) ⟨wr.heap.size, 0, none⟩ 1 1 [.int .i64 (nth r j).k, .int .i64 (nth r j).n, .string (nth r j).t] rfl rfl (World.news_of_block (cs := #[.int .i64 (nth r j).k, .int .i64 (nth r j).n, .string (nth r j).t]) (t := 60) (fr := (0, 0)) (heap_alloc_new wr _)) (by simp [Value.oneCell']) (by omega) (by unfold maxLen; omega) (by omega) (by simp; omega) (wr.heap.size + 1) (by simp) ?_
      intro gg cap2 w2 hown2 hgrow hat hlt'
      have HB2 : Hid (Below (w.heap.size + 2) W w2) := (HBl.out.alloc (by omega) _).grown hgrow (by simp; omega) (ownsRow_block HOj.out)
      have HO2 : Hid (Own w2 (w.heap.size + 2) (.slice (some ⟨gg, 0, none⟩) ((j + 1) + 1) cap2) (⟨x.k, x.n - n, ⟨#[]⟩⟩ :: r.take (j + 1))) := by
        rw [take_nth r j hlt, ← List.cons_append]
        exact own_snoc_of (n := j + 1) (nth r j) (by simp; omega) hown2
      clear hown2 hgrow hat
      go_wp2
      go_roundw
      case rel => exact ⟨j + 1, by omega, by go_num, HO2.out, HB2.out⟩
      case measure => simp [intOf]; omega
    · obtain rfl : j = r.length := by omega
      rw [List.take_length] at hown
      have e0 := (HX.out.below hbl (by omega)).cell 0 rfl
      have z0 := (HZ.out.below hbl (by omega)).cell 0 rfl
      have z1 := (HZ.out.below hbl (by omega)).cell 1 rfl
      have z2 := (HZ.out.below hbl (by omega)).cell 2 rfl
      have zf := (HZ.out.below hbl (by omega)).free
      go_wp2
      have hzb : Blk (((wr.setCell ⟨w.heap.size, 0, none⟩ (.int .i64 x.k)).setCell ⟨w.heap.size, 1, none⟩ (.int .i64 n)).setCell ⟨w.heap.size, 2, none⟩ (.string ⟨#[]⟩)) w.heap.size #[.int .i64 x.k, .int .i64 n, .string ⟨#[]⟩] 60 := ((((HZ.out.below hbl (by omega)).set 0 _).set 1 _).set 2 _)
      have q0 := hzb.cell 0 rfl
      have q1 := hzb.cell 1 rfl
      have q2 := hzb.cell 2 rfl
      have hwr : Wr (fun k => k = w.heap.size) wr (((wr.setCell ⟨w.heap.size, 0, none⟩ (.int .i64 x.k)).setCell ⟨w.heap.size, 1, none⟩ (.int .i64 n)).setCell ⟨w.heap.size, 2, none⟩ (.string ⟨#[]⟩)) := ((wr_set wr w.heap.size 0 _).trans (wr_set _ w.heap.size 1 _)).trans (wr_set _ w.heap.size 2 _)
      obtain ⟨g', hsl, hg'⟩ := Own.sl hown
      have hg2 := (hg' (by simp)).1
      have hfin : Sl (((wr.setCell ⟨w.heap.size, 0, none⟩ (.int .i64 x.k)).setCell ⟨w.heap.size, 1, none⟩ (.int .i64 n)).setCell ⟨w.heap.size, 2, none⟩ (.string ⟨#[]⟩)) u7 (⟨x.k, x.n - n, ⟨#[]⟩⟩ :: r) g' := hsl.wr hwr (by omega)
      have hbf : Below w.heap.size w (((wr.setCell ⟨w.heap.size, 0, none⟩ (.int .i64 x.k)).setCell ⟨w.heap.size, 1, none⟩ (.int .i64 n)).setCell ⟨w.heap.size, 2, none⟩ (.string ⟨#[]⟩)) := hbw.trans (hwr.below (fun k hk e => by omega) (by omega))
      clear z0 z1 z2 zf e0 hsl hown
      generalize (((wr.setCell ⟨w.heap.size, 0, none⟩ (.int .i64 x.k)).setCell ⟨w.heap.size, 1, none⟩ (.int .i64 n)).setCell ⟨w.heap.size, 2, none⟩ (.string ⟨#[]⟩)) = wz at *
      exact bodyPost_ret (v := .tuple #[.agg #[.int .i64 x.k, .int .i64 n, .string ⟨#[]⟩], u7]) (by simp [results, Tryd.results34, go_sem, q0, q1, q2]) rfl ⟨u7, g', rfl, hfin, by omega, hbf⟩
end Go.Proofs.YtdlolnahbgecjaaDoor
namespace Go.Proofs.YtdlolnahbgecjaaDoor
open Go.RowKit
set_option linter.unusedVariables false

/-- the cells of a part -/
def ptV (p : Pt) : Value := .agg #[.int .i64 p.k, .int .i64 p.n, .string p.t]

/-- what lies where in the reference's join -/
structure RJ (w0 wr : World) (va vb vo : Value) (a b : List Pt) (s : WS) (ga gb : Nat) : Prop where
  sa : Sl wr va a ga
  sb : Sl wr vb b gb
  o : Own wr w0.heap.size vo (settleP s)
  da : 0 < a.length → vo.ownBlock ≠ some ga
  db : 0 < b.length → vo.ownBlock ≠ some gb
  bl : Below w0.heap.size w0 wr
theorem own_block_lt {w : World} {base e size n : Nat} {v : Value} {xs : List Value} (h : w.ownsRow base e size v n xs) {k : Nat} (hk : v.ownBlock = some k) : k < w.heap.size := by
  rcases h.2 with ⟨rfl, _⟩ | ⟨g, cap, cur, rfl, hb, hg, _⟩
  · simp [Value.ownBlock] at hk
  · have : g = k := by simpa [Value.ownBlock] using hk
    subst this; exact (Array.getElem?_eq_some_iff.1 hg).1
theorem Sl.lt {w : World} {v : Value} {l : List Pt} {g : Nat} (h : Sl w v l g) (hl : 0 < l.length) : g < w.heap.size := by
  obtain ⟨_, _, _, _, _, h2, _⟩ := h; exact (h2 hl).2
theorem RJ.here {w0 wr w' : World} {va vb vo : Value} {a b : List Pt} {s : WS} {ga gb : Nat} (h : RJ w0 wr va vb vo a b s ga gb) (hb : Below wr.heap.size wr w') : RJ w0 w' va vb vo a b s ga gb :=
  ⟨h.sa.here hb, h.sb.here hb, own_here h.o hb, h.da, h.db, h.bl.trans (hb.mono h.bl.size)⟩
theorem RJ.grow {w0 wr w' : World} {va vb vo vo' : Value} {a b : List Pt} {s s' : WS} {ga gb : Nat} (h : RJ w0 wr va vb vo a b s ga gb) (ho : Own w' w0.heap.size vo' (settleP s')) (hg : Grow vo vo' wr w') : RJ w0 w' va vb vo' a b s' ga gb := by
  have key : ∀ {v : Value} {l : List Pt} {g : Nat}, Sl wr v l g → (0 < l.length → vo.ownBlock ≠ some g) → Sl w' v l g ∧ (0 < l.length → vo'.ownBlock ≠ some g) := fun {v l g} hs hd => by
    refine ⟨?_, fun hl hk => ?_⟩
    · rcases Nat.eq_zero_or_pos l.length with hz | hz
      · have : l = [] := List.eq_nil_of_length_eq_zero hz
        subst this
        obtain ⟨ao, off, cap, rfl, _⟩ := hs
        exact Sl.nil _ _ _ _
      · exact hs.wr hg.1 (fun e => hd hz e.symm)
    · rcases hg.2 g hk with h1 | h1
      · exact hd hl h1
      · have := hs.lt hl; omega
  exact ⟨(key h.sa h.da).1, (key h.sb h.db).1, ho, (key h.sa h.da).2, (key h.sb h.db).2, h.bl.trans (hg.below h.o (Nat.le_refl _) h.bl.size)⟩
theorem RJ.setA {w0 wr w' : World} {va va' vb vo : Value} {x : Pt} {a a' b : List Pt} {s : WS} {ga ga' gb : Nat} (h : RJ w0 wr va vb vo (x :: a) b s ga gb) (hs : Sl w' va' a' ga') (hg : ga' = ga ∨ wr.heap.size ≤ ga') (hb : Below wr.heap.size wr w') : RJ w0 w' va' vb vo a' b s ga' gb := by
  have h' := h.here hb
  refine ⟨hs, h'.sb, h'.o, fun _ hk => ?_, h'.db, h'.bl⟩
  rcases hg with rfl | hg
  · exact h.da (by simp) hk
  · have := own_block_lt h.o hk; omega
theorem RJ.setB {w0 wr w' : World} {va vb vb' vo : Value} {y : Pt} {a b b' : List Pt} {s : WS} {ga gb gb' : Nat} (h : RJ w0 wr va vb vo a (y :: b) s ga gb) (hs : Sl w' vb' b' gb') (hg : gb' = gb ∨ wr.heap.size ≤ gb') (hb : Below wr.heap.size wr w') : RJ w0 w' va vb' vo a b' s ga gb' := by
  have h' := h.here hb
  refine ⟨h'.sa, hs, h'.o, h'.da, fun _ hk => ?_, h'.bl⟩
  rcases hg with rfl | hg
  · exact h.db (by simp) hk
  · have := own_block_lt h.o hk; omega

theorem rj_push {w0 wr : World} {va vb vo : Value} {a b : List Pt} {s : WS} {ga gb : Nat} {S : Int} {L A : Nat} (h : RJ w0 wr va vb vo a b s ga gb) (hs : SOk s S L A) (p : Pt) (hp : okP p) (hS : S + p.n ≤ 9223372036854775807) (hL : L ≤ 100000000) (hA : A + p.t.size ≤ 100000000) :
    Calls Tryd.prog 33 #[vo, .agg #[.int .i64 p.k, .int .i64 p.n, .string p.t]] wr fun e w' => ∃ v', e = .returned v' ∧ RJ w0 w' va vb v' a b (layP s p) ga gb := by
  refine (push_any wr vo (settleP s) p S L A h.bl.size h.o hp hs.p hS hL hA).mono ?_
  rintro e w' ⟨v', rfl, hO, hG⟩
  exact ⟨v', rfl, h.grow (by rw [hs.step hp]; exact hO) hG⟩

theorem head_any (x : Pt) (r : List Pt) (v : Value) (g : Nat) (w : World) (k : Nat) (hs : Sl w v (x :: r) g) (hl : r.length ≤ 100000000) (ox : okP x) (hx : x.k ≠ 2) (hk : k ≤ pl x) (hm : x.n ≤ 9223372036854775807) :
    Calls Tryd.prog 34 #[v, .int .i64 k] w fun e w' => ∃ v' g', e = .returned (.tuple #[.agg #[.int .i64 (cut x 0 k).k, .int .i64 (cut x 0 k).n, .string (cut x 0 k).t], v']) ∧ Sl w' v' (restP x k ++ r) g' ∧ (g' = g ∨ w.heap.size ≤ g') ∧ Below w.heap.size w w' := by
  obtain ⟨ao, off, cap, rfl, hc, hp, ha⟩ := hs
  obtain ⟨rfl, hg⟩ := hp (by simp)
  obtain ⟨e1, e2⟩ := pl_n ox hx
  by_cases h : pl x ≤ k
  · have hk' : k = pl x := by omega
    subst hk'
    rw [cut_all ox, rest_all (Nat.le_refl _), List.nil_append]
    refine (head_all x r g off cap (pl x : Nat) w ha hg hl hc (by omega)).mono ?_
    rintro e w' ⟨v', rfl, h1, h2⟩
    exact ⟨v', g, rfl, h1, Or.inl rfl, h2⟩
  · have ec : cut x 0 k = ⟨x.k, k, ⟨#[]⟩⟩ := by unfold cut; rw [if_neg hx, e2]
    have er : restP x k = [⟨x.k, x.n - k, ⟨#[]⟩⟩] := by
      rw [rest_part (by omega)]; unfold cut; rw [if_neg hx, e2]; congr 2; omega
    rw [ec, er]
    refine (head_part x r g off cap (k : Nat) w ha hg hl (by omega) (by omega) hm).mono ?_
    rintro e w' ⟨v', g', rfl, h1, h2, h3⟩
    exact ⟨v', g', rfl, h1, Or.inr h2, h3⟩
end Go.Proofs.YtdlolnahbgecjaaDoor
namespace Go.Proofs.YtdlolnahbgecjaaDoor
open Go.RowKit
set_option linter.unusedVariables false

def ws0 : WS := ⟨[], ⟨#[]⟩, 0⟩
def jCode (ps qs : List Pt) : Int := if Good ps = false ∨ Good qs = false then 1 else if From ps < 0 then 2 else if From qs < 0 ∨ From qs ≠ madeTo ps ps.length then 2 else 0
def jOut (ps qs : List Pt) : List Pt := if jCode ps qs = 0 then settleP (Jn ps qs ws0) else []
theorem good_allOk {ps : List Pt} (h : Good ps = true) : allOk ps := fun p hp => ok_okP (by unfold Good at h; exact List.all_eq_true.1 h p hp)
theorem fromTo_sum {ps : List Pt} : ∀ (k : Nat) (r : Int), k ≤ ps.length → fromTo ps k = some r → r = sumL (ps.take k)
  | 0, r, _, h => by simp [fromTo] at h; subst h; simp [sumL]
  | k + 1, r, hk, h => by
    obtain ⟨r', h', e, _⟩ := fromTo_part h
    have := fromTo_sum k r' (by omega) h'
    rw [take_nth ps k (by omega), sumL_append, e, this]; simp [sumL]
theorem sum_from {l : List Pt} (h : allOk l) : sumL l = (fromL l : Int) := by
  induction l with
  | nil => rfl
  | cons p r ih =>
    obtain ⟨hp, hr⟩ := allOk_cons h
    simp only [sumL, fromL]
    rw [ih hr]
    split
    · rename_i hk; have := (pl_t hp hk).2; omega
    · rename_i hk; have := (pl_n hp hk).1; omega
theorem madeTo_made {ps : List Pt} (h : allOk ps) : ∀ k, k ≤ ps.length → madeTo ps k = (madeL (ps.take k) : Int)
  | 0, _ => by simp [madeTo, madeL]
  | k + 1, hk => by
    have ih := madeTo_made h k (by omega)
    have hp : okP (nth ps k) := h _ (by simp only [nth, List.getD, List.getElem?_eq_getElem (show k < ps.length by omega), Option.getD_some]; exact List.getElem_mem _)
    rw [take_nth ps k (by omega), madeL_append]
    simp only [madeTo, madeL]
    have e : (pl (nth ps k) : Int) = (nth ps k).n + (nth ps k).t.size := by unfold pl; have := okP_nn hp; omega
    rw [ih]
    split <;> (try split) <;> omega
theorem textTo_L {ps : List Pt} : ∀ k, k ≤ ps.length → textTo ps k = textL (ps.take k)
  | 0, _ => by simp [textTo, textL]
  | k + 1, hk => by
    rw [take_nth ps k (by omega), textL_append]
    simp only [textTo, textL]
    rw [textTo_L k (by omega)]; omega
theorem jok_start {w : World} {ps qs : List Pt} {ao bo : Option Addr} {b1 o1 b2 o2 : Nat} (A : Arg w ps ao b1 o1) (B : Arg w qs bo b2 o2) (h : jCode ps qs = 0) : JOk ps qs ws0 0 0 0 ∧ Good ps = true ∧ Good qs = true ∧ (∃ s, fromTo ps ps.length = some s) ∧ From qs = madeTo ps ps.length := by
  unfold jCode at h
  split at h
  · simp at h
  · rename_i hg
    have g1 : Good ps = true := by cases e : Good ps with | true => rfl | false => exact absurd (Or.inl e) hg
    have g2 : Good qs = true := by cases e : Good qs with | true => rfl | false => exact absurd (Or.inr e) hg
    split at h
    · simp at h
    · rename_i hf
      split at h
      · simp at h
      · rename_i hf2
        obtain ⟨s, hs⟩ : ∃ s, fromTo ps ps.length = some s := by
          cases e : fromTo ps ps.length with
          | none => simp [From, e] at hf
          | some s => exact ⟨s, rfl⟩
        obtain ⟨t, ht⟩ : ∃ s, fromTo qs qs.length = some s := by
          cases e : fromTo qs qs.length with
          | none => exfalso; apply hf2; left; simp [From, e]
          | some s => exact ⟨s, rfl⟩
        have e1 := fromTo_sum _ _ (Nat.le_refl _) hs
        have e2 := fromTo_sum _ _ (Nat.le_refl _) ht
        rw [List.take_length] at e1 e2
        have e3 := madeTo_made (good_allOk g1) _ (Nat.le_refl _)
        rw [List.take_length] at e3
        have e4 : From qs = t := by simp [From, ht]
        have e5 : From qs = madeTo ps ps.length := by
          by_cases e : From qs = madeTo ps ps.length
          · exact e
          · exact absurd (Or.inr e) hf2
        have e6 := sum_from (good_allOk g2)
        have hb := made_bd (A.nn g1) _ _ hs
        have t1 := textTo_L (ps := ps) _ (Nat.le_refl _)
        have t2 := textTo_L (ps := qs) _ (Nat.le_refl _)
        rw [List.take_length] at t1 t2
        have := A.text
        have := B.text
        have := A.len
        have := B.len
        exact ⟨⟨good_allOk g1, good_allOk g2, by omega, SOk.zero, by omega, by omega, by omega⟩, g1, g2, ⟨s, hs⟩, e5⟩
end Go.Proofs.YtdlolnahbgecjaaDoor
namespace Go.Proofs.YtdlolnahbgecjaaDoor
open Go.RowKit
set_option linter.unusedVariables false

/-- what is left of a list at part k, of which us bytes are used -/
def remL (ps : List Pt) (k us : Nat) : List Pt := if k < ps.length then restP (nth ps k) us ++ ps.drop (k + 1) else []
theorem psz_pl {p : Pt} (h : okP p) : psz p = (pl p : Int) := by unfold psz pl; have := okP_nn h; omega
theorem nth_ok {ps : List Pt} (h : allOk ps) {k : Nat} (hk : k < ps.length) : okP (nth ps k) := h _ (by simp only [nth, List.getD, List.getElem?_eq_getElem hk, Option.getD_some]; exact List.getElem_mem _)
theorem drop_nth {ps : List Pt} {k : Nat} (hk : k < ps.length) : ps.drop k = nth ps k :: ps.drop (k + 1) := by
  rw [List.drop_eq_getElem_cons hk]; simp only [nth, List.getD, List.getElem?_eq_getElem hk, Option.getD_some]
theorem remL_zero {ps : List Pt} (h : allOk ps) (k : Nat) : remL ps k 0 = ps.drop k := by
  unfold remL
  split
  · rename_i hk
    have ho := nth_ok h hk
    have := pl_pos ho
    rw [rest_part (by omega), Nat.sub_zero, cut_all ho, drop_nth hk]; rfl
  · rw [List.drop_eq_nil_of_le (by omega)]

/-- a reader at rb, over a list at block b; rem: what it has still to hand out -/
structure Rr (base : Nat) (w : World) (rb b : Nat) (rem : List Pt) : Prop where
  ex : ∃ off cap ao ps k us, Rd w rb (.slice ao ps.length cap) (k : Nat) (us : Nat) ∧ k ≤ ps.length ∧ (k < ps.length → us < pl (nth ps k)) ∧ rem = remL ps k us ∧ At w b off ps ∧ (0 < ps.length → ao = some ⟨b, off, none⟩ ∧ b < base ∧ b ≠ rb) ∧ allOk ps ∧ ps.length ≤ 1048576 ∧ ∀ i, psz (nth ps i) ≤ 9223372036854775807
  lt : rb < base
  bw : base ≤ w.heap.size
theorem Rr.below {base rb b : Nat} {w w' : World} {rem : List Pt} (h : Rr base w rb b rem) (hb : Below base w w') : Rr base w' rb b rem := by
  obtain ⟨off, cap, ao, ps, k, us, R, hk, hu, hr, A, ha, ok, len, sz⟩ := h.ex
  have hs := hb.size
  exact ⟨⟨off, cap, ao, ps, k, us, R.below hb h.lt, hk, hu, hr, A.below hb (fun h0 => (ha h0).2.1), ha, ok, len, sz⟩, h.lt, by have := h.bw; omega⟩
theorem Rr.only {base rb b r : Nat} {w w' : World} {rem : List Pt} (h : Rr base w rb b rem) (o : Only r w w') (h1 : rb ≠ r) (h2 : b ≠ r) : Rr base w' rb b rem := by
  obtain ⟨off, cap, ao, ps, k, us, R, hk, hu, hr, A, ha, ok, len, sz⟩ := h.ex
  have hbw := h.bw
  have hlt := h.lt
  exact ⟨⟨off, cap, ao, ps, k, us, (o.block rb (by omega) (by simpa using h1)).trans R, hk, hu, hr, A.only o (fun h0 => by have := (ha h0).2.1; omega) h2, ha, ok, len, sz⟩, h.lt, by have := o.size; omega⟩
theorem Rr.ok {base rb b : Nat} {w : World} {rem : List Pt} (h : Rr base w rb b rem) : allOk rem := by
  obtain ⟨off, cap, ao, ps, k, us, R, hk, hu, hr, A, ha, ok, len, sz⟩ := h.ex
  subst hr
  unfold remL
  split
  · rename_i h1
    exact allOk_app (rest_ok (nth_ok ok h1) _) (fun q hq => ok q (List.mem_of_mem_drop hq))
  · intro q hq; simp at hq

theorem rr_kind_nil {base rb b : Nat} {w : World} (h : Rr base w rb b []) : Calls Tryd.prog 60 #[.pointer (some ⟨rb, 0, none⟩)] w fun e w' => e = .returned (.int .i64 0) ∧ Below w.heap.size w w' := by
  obtain ⟨off, cap, ao, ps, k, us, R, hk, hu, hr, A, ha, ok, len, sz⟩ := h.ex
  by_cases hlt : k < ps.length
  · exfalso
    unfold remL at hr
    rw [if_pos hlt, rest_part (hu hlt)] at hr
    simp at hr
  · exact kind_out ps.length ao cap rb k us w (by omega) R
/-- the first part that is left -/
theorem Rr.cons {base rb b : Nat} {w : World} {x : Pt} {r : List Pt} (h : Rr base w rb b (x :: r)) : ∃ off cap ps k us, Rd w rb (.slice (some ⟨b, off, none⟩) ps.length cap) (k : Nat) (us : Nat) ∧ k < ps.length ∧ us < pl (nth ps k) ∧ x = cut (nth ps k) us (pl (nth ps k) - us) ∧ r = ps.drop (k + 1) ∧ At w b off ps ∧ b < base ∧ b ≠ rb ∧ allOk ps ∧ ps.length ≤ 1048576 ∧ ∀ i, psz (nth ps i) ≤ 9223372036854775807 := by
  obtain ⟨off, cap, ao, ps, k, us, R, hk, hu, hr, A, ha, ok, len, sz⟩ := h.ex
  unfold remL at hr
  by_cases hlt : k < ps.length
  · rw [if_pos hlt, rest_part (hu hlt)] at hr
    obtain ⟨rfl, h1, h2⟩ := ha (by omega)
    simp only [List.singleton_append, List.cons.injEq] at hr
    exact ⟨off, cap, ps, k, us, R, hlt, hu hlt, hr.1, hr.2, A, h1, h2, ok, len, sz⟩
  · rw [if_neg hlt] at hr; cases hr
theorem rr_kind {base rb b : Nat} {w : World} {x : Pt} {r : List Pt} (h : Rr base w rb b (x :: r)) : Calls Tryd.prog 60 #[.pointer (some ⟨rb, 0, none⟩)] w fun e w' => e = .returned (.int .i64 x.k) ∧ Below w.heap.size w w' := by
  obtain ⟨off, cap, ps, k, us, R, hk, hu, hx, hr, A, h1, h2, ok, len, sz⟩ := h.cons
  have := h.bw
  have e : x.k = (nth ps k).k := by subst hx; exact (cut_ok (nth_ok ok hk) (by omega) (by omega)).2.2
  rw [e]
  exact kind_in ps b off cap rb k us w A (by omega) hk R
theorem rr_left {base rb b : Nat} {w : World} {x : Pt} {r : List Pt} (h : Rr base w rb b (x :: r)) : Calls Tryd.prog 70 #[.pointer (some ⟨rb, 0, none⟩)] w fun e w' => e = .returned (.int .i64 (pl x : Nat)) ∧ Below w.heap.size w w' := by
  obtain ⟨off, cap, ps, k, us, R, hk, hu, hx, hr, A, h1, h2, ok, len, sz⟩ := h.cons
  have := h.bw
  have ho := nth_ok ok hk
  have e : ((pl x : Nat) : Int) = psz (nth ps k) - us := by subst hx; rw [(cut_ok ho (by omega) (by omega)).2.1, psz_pl ho]; omega
  rw [e]
  exact left_in ps b off cap rb k us w A (by omega) hk R (by omega) (by rw [psz_pl ho]; omega) (sz k) (okP_nn ho)
theorem rr_rest {base rb b : Nat} {w : World} {x : Pt} {r : List Pt} (h : Rr base w rb b (x :: r)) : Calls Tryd.prog 61 #[.pointer (some ⟨rb, 0, none⟩)] w fun e w' => e = .returned (.agg #[.int .i64 x.k, .int .i64 x.n, .string x.t]) ∧ Only rb w w' ∧ Rr base w' rb b r := by
  obtain ⟨off, cap, ps, k, us, R, hk, hu, hx, hr, A, h1, h2, ok, len, sz⟩ := h.cons
  have hbw := h.bw
  have ho := nth_ok ok hk
  refine (rest_any ps b off cap rb k us (pl (nth ps k) - us) w A (by omega) hk len R h2 (okP_of ho) (by rw [psz_pl ho]; omega) (sz k)).mono ?_
  rintro e w' ⟨rfl, o, R'⟩
  rw [← hx]
  refine ⟨rfl, o, ⟨⟨off, cap, _, ps, k + 1, 0, by exact_mod_cast R', by omega, fun h0 => by have := pl_pos (nth_ok ok h0); omega, by rw [remL_zero ok, hr], A.only o (fun _ => by omega) h2, fun _ => ⟨rfl, h1, h2⟩, ok, len, sz⟩, h.lt, by have := o.size; omega⟩⟩
theorem rr_take {base rb b : Nat} {w : World} {x : Pt} {r : List Pt} (h : Rr base w rb b (x :: r)) (n : Nat) (h0 : 1 ≤ n) (hn : n ≤ pl x) : Calls Tryd.prog 69 #[.pointer (some ⟨rb, 0, none⟩), .int .i64 n] w fun e w' => e = .returned (.agg #[.int .i64 (cut x 0 n).k, .int .i64 (cut x 0 n).n, .string (cut x 0 n).t]) ∧ Only rb w w' ∧ Rr base w' rb b (restP x n ++ r) := by
  obtain ⟨off, cap, ps, k, us, R, hk, hu, hx, hr, A, h1, h2, ok, len, sz⟩ := h.cons
  have hbw := h.bw
  have ho := nth_ok ok hk
  obtain ⟨ox, xl, xk⟩ := cut_ok ho (a := us) (m := pl (nth ps k) - us) (by omega) (by omega)
  rw [← hx] at ox xl xk
  have ec : cut x 0 n = cut (nth ps k) us n := by rw [hx, cut_cut ho (by omega) (by omega), Nat.add_zero]
  refine (take_any ps b off cap rb k us n n w A (by omega) hk len R h2 (okP_of ho) (by rw [psz_pl ho]; omega) (sz k) (by rw [psz_pl ho]; omega)).mono ?_
  rintro e w' ⟨rfl, o, R'⟩
  rw [ec]
  refine ⟨rfl, o, ?_⟩
  unfold RdAfter at R'
  by_cases hall : n = pl x
  · rw [if_pos (by rw [psz_pl ho]; omega)] at R'
    rw [rest_all (by omega), List.nil_append]
    exact ⟨⟨off, cap, _, ps, k + 1, 0, by exact_mod_cast R', by omega, fun h0 => by have := pl_pos (nth_ok ok h0); omega, by rw [remL_zero ok, hr], A.only o (fun _ => by omega) h2, fun _ => ⟨rfl, h1, h2⟩, ok, len, sz⟩, h.lt, by have := o.size; omega⟩
  · rw [if_neg (by rw [psz_pl ho]; omega)] at R'
    refine ⟨⟨off, cap, _, ps, k, us + n, by exact_mod_cast R', by omega, fun _ => by omega, ?_, A.only o (fun _ => by omega) h2, fun _ => ⟨rfl, h1, h2⟩, ok, len, sz⟩, h.lt, by have := o.size; omega⟩
    unfold remL
    rw [if_pos hk, rest_part (by omega), rest_part (p := nth ps k) (by omega), hr, hx, cut_cut ho (by rw [← hx]; omega) (by omega), ← hx, xl]
    congr 3; omega
end Go.Proofs.YtdlolnahbgecjaaDoor
namespace Go.Proofs.YtdlolnahbgecjaaDoor
open Go.RowKit
set_option linter.unusedVariables false

theorem Wr.then_below {S : Nat → Prop} {a b c : World} (h : Wr S a b) (k : Below a.heap.size b c) : Wr S a c :=
  ⟨k.os.trans h.os, k.tape.trans h.tape, k.output.trans h.output, Nat.le_trans h.size k.size, fun i hi hn => (k.block i hi).trans (h.block i hi hn)⟩

set_option maxRecDepth 100000 in
set_option maxHeartbeats 4000000 in
theorem abreast_any (base ra rb b1 b2 m : Nat) (w : World) (x y : Pt) (a b : List Pt) (R1 : Rr base w ra b1 (x :: a)) (R2 : Rr base w rb b2 (y :: b)) (hab : ra ≠ rb) (h12 : b1 ≠ rb) (h21 : b2 ≠ ra) (hm : min (pl x) (pl y) = m) :
    Calls Tryd.prog 62 #[.pointer (some ⟨ra, 0, none⟩), .pointer (some ⟨rb, 0, none⟩)] w fun e w' => e = .returned (.tuple #[.agg #[.int .i64 (cut x 0 m).k, .int .i64 (cut x 0 m).n, .string (cut x 0 m).t], .agg #[.int .i64 (cut y 0 m).k, .int .i64 (cut y 0 m).n, .string (cut y 0 m).t]]) ∧ Rr base w' ra b1 (restP x m ++ a) ∧ Rr base w' rb b2 (restP y m ++ b) ∧ Wr (fun k => k = ra ∨ k = rb) w w' := by
  have hbw := R1.bw
  have hla := R1.lt
  have hlb := R2.lt
  have px := pl_pos (allOk_cons R1.ok).1
  have py := pl_pos (allOk_cons R2.ok).1
  have hmi : min ((pl x : Nat) : Int) ((pl y : Nat) : Int) = ((m : Nat) : Int) := by omega
  have HR1 : Hid (Rr base w ra b1 (x :: a)) := R1
  have HR2 : Hid (Rr base w rb b2 (y :: b)) := R2
  have HL1 : Hid (∀ wx, Below w.heap.size w wx → Calls Tryd.prog 70 #[.pointer (some ⟨ra, 0, none⟩)] wx fun e w' => e = .returned (.int .i64 (pl x : Nat)) ∧ Below wx.heap.size wx w') := fun wx hb => rr_left (R1.below (hb.mono hbw))
  have HL2 : Hid (∀ wx, Below w.heap.size w wx → Calls Tryd.prog 70 #[.pointer (some ⟨rb, 0, none⟩)] wx fun e w' => e = .returned (.int .i64 (pl y : Nat)) ∧ Below wx.heap.size wx w') := fun wx hb => rr_left (R2.below (hb.mono hbw))
  have HT1 : Hid (∀ wx, Rr base wx ra b1 (x :: a) → Calls Tryd.prog 69 #[.pointer (some ⟨ra, 0, none⟩), .int .i64 m] wx fun e w' => e = .returned (.agg #[.int .i64 (cut x 0 m).k, .int .i64 (cut x 0 m).n, .string (cut x 0 m).t]) ∧ Only ra wx w' ∧ Rr base w' ra b1 (restP x m ++ a)) := fun wx R => rr_take R m (by omega) (by omega)
  have HT2 : Hid (∀ wx, Rr base wx rb b2 (y :: b) → Calls Tryd.prog 69 #[.pointer (some ⟨rb, 0, none⟩), .int .i64 m] wx fun e w' => e = .returned (.agg #[.int .i64 (cut y 0 m).k, .int .i64 (cut y 0 m).n, .string (cut y 0 m).t]) ∧ Only rb wx w' ∧ Rr base w' rb b2 (restP y m ++ b)) := fun wx R => rr_take R m (by omega) (by omega)
  clear R1 R2 hm px py
  generalize pl x = lx at *
  generalize pl y = ly at *
  generalize cut x 0 m = cx at *
  generalize cut y 0 m = cy at *
  generalize restP x m ++ a = xa at *
  generalize restP y m ++ b = yb at *
  have hb0 : Below w.heap.size w ((w.alloc (.cells #[.int .i64 0, .int .i64 0, .string ⟨#[]⟩] 61)).alloc (.cells #[.int .i64 0, .int .i64 0, .string ⟨#[]⟩] 61)) := ((Below.refl _ _).alloc (Nat.le_refl _) _).alloc (by simp) _
  have HZ1 : Hid (Blk ((w.alloc (.cells #[.int .i64 0, .int .i64 0, .string ⟨#[]⟩] 61)).alloc (.cells #[.int .i64 0, .int .i64 0, .string ⟨#[]⟩] 61)) w.heap.size #[.int .i64 0, .int .i64 0, .string ⟨#[]⟩] 61) := (Blk.new w _ 61).alloc _
  have HZ2 : Hid (Blk ((w.alloc (.cells #[.int .i64 0, .int .i64 0, .string ⟨#[]⟩] 61)).alloc (.cells #[.int .i64 0, .int .i64 0, .string ⟨#[]⟩] 61)) (w.heap.size + 1) #[.int .i64 0, .int .i64 0, .string ⟨#[]⟩] 61) := Blk.new' _ 61 (by simp)
  have HB0 : Hid (Below w.heap.size w ((w.alloc (.cells #[.int .i64 0, .int .i64 0, .string ⟨#[]⟩] 61)).alloc (.cells #[.int .i64 0, .int .i64 0, .string ⟨#[]⟩] 61))) := hb0
  clear hb0
  go_enter Tryd.func62, Tryd.ntmps62
  go_wp2_with fail
  generalize ((w.alloc (.cells #[.int .i64 0, .int .i64 0, .string ⟨#[]⟩] 61)).alloc (.cells #[.int .i64 0, .int .i64 0, .string ⟨#[]⟩] 61)) = W at *
  refine (HL1.out W HB0.out).mono ?_
  rintro e w1 ⟨rfl, hb1⟩
  have HB1 : Hid (Below w.heap.size w w1) := HB0.out.trans (hb1.mono HB0.out.size)
  have HC1 : Hid (Below W.heap.size W w1) := hb1
  clear hb1
  go_wp2_with fail
  refine (HL2.out w1 HB1.out).mono ?_
  rintro e w2 ⟨rfl, hb2⟩
  have HB2 : Hid (Below w.heap.size w w2) := HB1.out.trans (hb2.mono HB1.out.size)
  have HC2 : Hid (Below W.heap.size W w2) := HC1.out.trans (hb2.mono HC1.out.size)
  have HR12 : Hid (Rr base w2 ra b1 (x :: a)) := HR1.out.below (HB2.out.mono hbw)
  have HR22 : Hid (Rr base w2 rb b2 (y :: b)) := HR2.out.below (HB2.out.mono hbw)
  clear hb2
  go_wp2_with fail
  refine (HT1.out w2 HR12.out).mono ?_
  rintro e w3 ⟨rfl, ho3, R3⟩
  have HO3 : Hid (Only ra w2 w3) := ho3
  have HR13 : Hid (Rr base w3 ra b1 xa) := R3
  have HR23 : Hid (Rr base w3 rb b2 (y :: b)) := HR22.out.only ho3 (by omega) h21
  clear ho3 R3
  go_wp2_with fail
  refine (HT2.out w3 HR23.out).mono ?_
  rintro e w4 ⟨rfl, ho4, R4⟩
  have HO4 : Hid (Only rb w3 w4) := ho4
  have HR14 : Hid (Rr base w4 ra b1 xa) := HR13.out.only ho4 hab h12
  have HR24 : Hid (Rr base w4 rb b2 yb) := R4
  have Z1 : Blk w4 w.heap.size #[.int .i64 0, .int .i64 0, .string ⟨#[]⟩] 61 := ((HZ1.out.here HC2.out).only HO3.out (by omega)).only ho4 (by omega)
  have Z2 : Blk w4 (w.heap.size + 1) #[.int .i64 0, .int .i64 0, .string ⟨#[]⟩] 61 := ((HZ2.out.here HC2.out).only HO3.out (by omega)).only ho4 (by omega)
  have z10 := Z1.cell 0 rfl
  have z11 := Z1.cell 1 rfl
  have z12 := Z1.cell 2 rfl
  have z1f := Z1.free
  have z20 := Z2.cell 0 rfl
  have z21 := Z2.cell 1 rfl
  have z22 := Z2.cell 2 rfl
  have z2f := Z2.free
  have HZZ1 : Hid (Blk w4 w.heap.size #[.int .i64 0, .int .i64 0, .string ⟨#[]⟩] 61) := Z1
  have HZZ2 : Hid (Blk w4 (w.heap.size + 1) #[.int .i64 0, .int .i64 0, .string ⟨#[]⟩] 61) := Z2
  clear ho4 R4 Z1 Z2
  go_wp2
  have hp1 : Blk ((((((w4.setCell ⟨w.heap.size, 0, none⟩ (.int .i64 cx.k)).setCell ⟨w.heap.size, 1, none⟩ (.int .i64 cx.n)).setCell ⟨w.heap.size, 2, none⟩ (.string cx.t)).setCell ⟨w.heap.size + 1, 0, none⟩ (.int .i64 cy.k)).setCell ⟨w.heap.size + 1, 1, none⟩ (.int .i64 cy.n)).setCell ⟨w.heap.size + 1, 2, none⟩ (.string cy.t)) w.heap.size #[.int .i64 cx.k, .int .i64 cx.n, .string cx.t] 61 := (((((HZZ1.out.set 0 _).set 1 _).set 2 _).setOther _ _ (by simp)).setOther _ _ (by simp)).setOther _ _ (by simp)
  have hp2 : Blk ((((((w4.setCell ⟨w.heap.size, 0, none⟩ (.int .i64 cx.k)).setCell ⟨w.heap.size, 1, none⟩ (.int .i64 cx.n)).setCell ⟨w.heap.size, 2, none⟩ (.string cx.t)).setCell ⟨w.heap.size + 1, 0, none⟩ (.int .i64 cy.k)).setCell ⟨w.heap.size + 1, 1, none⟩ (.int .i64 cy.n)).setCell ⟨w.heap.size + 1, 2, none⟩ (.string cy.t)) (w.heap.size + 1) #[.int .i64 cy.k, .int .i64 cy.n, .string cy.t] 61 := (((((HZZ2.out.setOther _ _ (by simp)).setOther _ _ (by simp)).setOther _ _ (by simp)).set 0 _).set 1 _).set 2 _
  have hwr : Wr (fun k => k = w.heap.size ∨ k = w.heap.size + 1) w4 ((((((w4.setCell ⟨w.heap.size, 0, none⟩ (.int .i64 cx.k)).setCell ⟨w.heap.size, 1, none⟩ (.int .i64 cx.n)).setCell ⟨w.heap.size, 2, none⟩ (.string cx.t)).setCell ⟨w.heap.size + 1, 0, none⟩ (.int .i64 cy.k)).setCell ⟨w.heap.size + 1, 1, none⟩ (.int .i64 cy.n)).setCell ⟨w.heap.size + 1, 2, none⟩ (.string cy.t)) := (((((((Wr.refl _ w4).set (Or.inl (Or.inl rfl)) _ _).set (Or.inl (Or.inl rfl)) _ _).set (Or.inl (Or.inl rfl)) _ _).set (Or.inl (Or.inr rfl)) _ _).set (Or.inl (Or.inr rfl)) _ _).set (Or.inl (Or.inr rfl)) _ _)
  generalize ((((((w4.setCell ⟨w.heap.size, 0, none⟩ (.int .i64 cx.k)).setCell ⟨w.heap.size, 1, none⟩ (.int .i64 cx.n)).setCell ⟨w.heap.size, 2, none⟩ (.string cx.t)).setCell ⟨w.heap.size + 1, 0, none⟩ (.int .i64 cy.k)).setCell ⟨w.heap.size + 1, 1, none⟩ (.int .i64 cy.n)).setCell ⟨w.heap.size + 1, 2, none⟩ (.string cy.t)) = wz at *
  have q10 := hp1.cell 0 rfl
  have q11 := hp1.cell 1 rfl
  have q12 := hp1.cell 2 rfl
  have q20 := hp2.cell 0 rfl
  have q21 := hp2.cell 1 rfl
  have q22 := hp2.cell 2 rfl
  have hs4 : w.heap.size ≤ w4.heap.size := Nat.le_trans HB2.out.size (Nat.le_trans HO3.out.size HO4.out.size)
  have hbz : Below w.heap.size w4 wz := hwr.below (fun k hk e => by omega) hs4
  have hfin : Wr (fun k => k = ra ∨ k = rb) w wz := (((Wr.here HB2.out).trans (Wr.only HO3.out (Or.inl rfl))).trans (Wr.only HO4.out (Or.inr rfl))).then_below hbz
  exact bodyPost_ret (v := .tuple #[.agg #[.int .i64 cx.k, .int .i64 cx.n, .string cx.t], .agg #[.int .i64 cy.k, .int .i64 cy.n, .string cy.t]]) (by simp [results, Tryd.results62, go_sem, q10, q11, q12, q20, q21, q22]) rfl ⟨rfl, HR14.out.below (hbz.mono hbw), HR24.out.below (hbz.mono hbw), hfin⟩
end Go.Proofs.YtdlolnahbgecjaaDoor
namespace Go.Proofs.YtdlolnahbgecjaaDoor
open Go.RowKit
set_option linter.unusedVariables false

theorem Wt.wr {S : Nat → Prop} {base wb : Nat} {w w' : World} {s : WS} {o p v : Value} (W : Wt base wb w s o p v) (h : Wr S w w') (hS : ∀ k, base ≤ k → ¬ S k) : Wt base wb w' s o p v :=
  ⟨W.blk.wr h (hS _ W.bb), W.p, ownsRow_wr W.out h (fun k hk => hS k (ownsRow_block W.out k hk)), ownsRow_wr W.buf h (fun k hk => hS k (ownsRow_block W.buf k hk)), W.bb, Nat.le_trans W.bw h.size⟩

/-- where the program's join stands -/
structure JSt (wb ra rb b1 b2 : Nat) (w0 wr : World) (a b : List Pt) (s : WS) : Prop where
  r1 : Rr w0.heap.size wr ra b1 a
  r2 : Rr w0.heap.size wr rb b2 b
  wt : ∃ o p v, Wt w0.heap.size wb wr s o p v
  fr : Wr (fun k => k = ra ∨ k = rb) w0 wr
theorem JSt.here {wb ra rb b1 b2 : Nat} {w0 wr w' : World} {a b : List Pt} {s : WS} (h : JSt wb ra rb b1 b2 w0 wr a b s) (hb : Below wr.heap.size wr w') : JSt wb ra rb b1 b2 w0 w' a b s := by
  have hs := h.r1.bw
  obtain ⟨o, p, v, W⟩ := h.wt
  exact ⟨h.r1.below (hb.mono hs), h.r2.below (hb.mono hs), ⟨o, p, v, W.here hb⟩, h.fr.then_below (hb.mono hs)⟩
theorem js_lay {wb ra rb b1 b2 : Nat} {w0 wr : World} {a b : List Pt} {s : WS} (h : JSt wb ra rb b1 b2 w0 wr a b s) {S : Int} {L A : Nat} (hs : SOk s S L A) (q : Pt) (hq : okP q) (hS : S + q.n ≤ 9223372036854775807) (hL : L ≤ 100000000) (hA : A + q.t.size ≤ 100000000) :
    Calls Tryd.prog 56 #[.pointer (some ⟨wb, 0, none⟩), .agg #[.int .i64 q.k, .int .i64 q.n, .string q.t]] wr fun e w' => e = .returned (.tuple #[]) ∧ JSt wb ra rb b1 b2 w0 w' a b (layP s q) := by
  obtain ⟨o, p, v, W⟩ := h.wt
  refine (lay_ok w0.heap.size wb wr s o p v q S L A W hs.w (okP_of hq) hS hL hA).mono ?_
  rintro e w' ⟨rfl, o', p', v', W', F⟩
  have hb := F.below h.r1.bw
  exact ⟨rfl, h.r1.below hb, h.r2.below hb, ⟨o', p', v', W'⟩, h.fr.then_below hb⟩
theorem js_restA {wb ra rb b1 b2 : Nat} {w0 wr : World} {x : Pt} {a b : List Pt} {s : WS} (h : JSt wb ra rb b1 b2 w0 wr (x :: a) b s) (hab : ra ≠ rb) (h21 : b2 ≠ ra) :
    Calls Tryd.prog 61 #[.pointer (some ⟨ra, 0, none⟩)] wr fun e w' => e = .returned (.agg #[.int .i64 x.k, .int .i64 x.n, .string x.t]) ∧ JSt wb ra rb b1 b2 w0 w' a b s := by
  obtain ⟨o, p, v, W⟩ := h.wt
  have hl := h.r1.lt
  refine (rr_rest h.r1).mono ?_
  rintro e w' ⟨rfl, ho, R⟩
  exact ⟨rfl, R, h.r2.only ho (by omega) h21, ⟨o, p, v, W.wr (Wr.only (S := fun k => k = ra) ho rfl) (fun k hk e => by omega)⟩, h.fr.trans (Wr.only ho (Or.inl rfl))⟩
theorem js_restB {wb ra rb b1 b2 : Nat} {w0 wr : World} {y : Pt} {a b : List Pt} {s : WS} (h : JSt wb ra rb b1 b2 w0 wr a (y :: b) s) (hab : ra ≠ rb) (h12 : b1 ≠ rb) :
    Calls Tryd.prog 61 #[.pointer (some ⟨rb, 0, none⟩)] wr fun e w' => e = .returned (.agg #[.int .i64 y.k, .int .i64 y.n, .string y.t]) ∧ JSt wb ra rb b1 b2 w0 w' a b s := by
  obtain ⟨o, p, v, W⟩ := h.wt
  have hl := h.r2.lt
  refine (rr_rest h.r2).mono ?_
  rintro e w' ⟨rfl, ho, R⟩
  exact ⟨rfl, h.r1.only ho hab h12, R, ⟨o, p, v, W.wr (Wr.only (S := fun k => k = rb) ho rfl) (fun k hk e => by omega)⟩, h.fr.trans (Wr.only ho (Or.inr rfl))⟩
theorem js_abreast {wb ra rb b1 b2 : Nat} {w0 wr : World} {x y : Pt} {a b : List Pt} {s : WS} (h : JSt wb ra rb b1 b2 w0 wr (x :: a) (y :: b) s) (hab : ra ≠ rb) (h12 : b1 ≠ rb) (h21 : b2 ≠ ra) (m : Nat) (hm : min (pl x) (pl y) = m) :
    Calls Tryd.prog 62 #[.pointer (some ⟨ra, 0, none⟩), .pointer (some ⟨rb, 0, none⟩)] wr fun e w' => e = .returned (.tuple #[.agg #[.int .i64 (cut x 0 m).k, .int .i64 (cut x 0 m).n, .string (cut x 0 m).t], .agg #[.int .i64 (cut y 0 m).k, .int .i64 (cut y 0 m).n, .string (cut y 0 m).t]]) ∧ JSt wb ra rb b1 b2 w0 w' (restP x m ++ a) (restP y m ++ b) s := by
  obtain ⟨o, p, v, W⟩ := h.wt
  have hl1 := h.r1.lt
  have hl2 := h.r2.lt
  refine (abreast_any w0.heap.size ra rb b1 b2 m wr x y a b h.r1 h.r2 hab h12 h21 hm).mono ?_
  rintro e w' ⟨rfl, R1, R2, hw⟩
  exact ⟨rfl, R1, R2, ⟨o, p, v, W.wr hw (fun k hk e => by omega)⟩, h.fr.trans hw⟩
theorem js_kindA {wb ra rb b1 b2 : Nat} {w0 wr : World} {a b : List Pt} {s : WS} (h : JSt wb ra rb b1 b2 w0 wr a b s) :
    Calls Tryd.prog 60 #[.pointer (some ⟨ra, 0, none⟩)] wr fun e w' => e = .returned (.int .i64 (match a with | [] => 0 | x :: _ => x.k)) ∧ JSt wb ra rb b1 b2 w0 w' a b s := by
  cases a with
  | nil =>
    refine (rr_kind_nil h.r1).mono ?_
    rintro e w' ⟨rfl, hb⟩
    exact ⟨rfl, h.here hb⟩
  | cons x a =>
    refine (rr_kind h.r1).mono ?_
    rintro e w' ⟨rfl, hb⟩
    exact ⟨rfl, h.here hb⟩
theorem js_kindB {wb ra rb b1 b2 : Nat} {w0 wr : World} {a b : List Pt} {s : WS} (h : JSt wb ra rb b1 b2 w0 wr a b s) :
    Calls Tryd.prog 60 #[.pointer (some ⟨rb, 0, none⟩)] wr fun e w' => e = .returned (.int .i64 (match b with | [] => 0 | x :: _ => x.k)) ∧ JSt wb ra rb b1 b2 w0 w' a b s := by
  cases b with
  | nil =>
    refine (rr_kind_nil h.r2).mono ?_
    rintro e w' ⟨rfl, hb⟩
    exact ⟨rfl, h.here hb⟩
  | cons x b =>
    refine (rr_kind h.r2).mono ?_
    rintro e w' ⟨rfl, hb⟩
    exact ⟨rfl, h.here hb⟩
theorem okP_kind {p : Pt} (h : okP p) : p.k ≠ 0 := by rcases h with ⟨h | h, _⟩ | ⟨h, _⟩ <;> omega
theorem wt_cons (p : Pt) (l : List Pt) : wt l < wt (p :: l) := by simp only [wt]; omega
theorem JOk.small {a b : List Pt} {s : WS} {S : Int} {L A : Nat} (h : JOk a b s S L A) : S ≤ 4611686018427387904 ∧ L ≤ 100000000 ∧ A ≤ 10000000 := by
  have h1 := h.sum
  have h2 := h.len
  have h3 := h.txt
  have h4 := allOk_nn h.oka
  exact ⟨by omega, by omega, by omega⟩
theorem JOk.layAdd {a b : List Pt} {y : Pt} {s : WS} {S : Int} {L A : Nat} (h : JOk a (y :: b) s S L A) (hy : y.k = 2) : okP y ∧ S + y.n ≤ 9223372036854775807 ∧ A + y.t.size ≤ 100000000 := by
  obtain ⟨oy, hb⟩ := allOk_cons h.okb
  obtain ⟨h1, h2, h3⟩ := h.small
  have h4 := h.txt
  simp only [textL] at h4
  have := (pl_t oy hy).2
  exact ⟨oy, by omega, by omega⟩
theorem JOk.layDrop {a b : List Pt} {x : Pt} {s : WS} {S : Int} {L A : Nat} (h : JOk (x :: a) b s S L A) (hx : x.k = 3) : okP x ∧ S + x.n ≤ 9223372036854775807 ∧ A + x.t.size ≤ 100000000 := by
  obtain ⟨ox, ha⟩ := allOk_cons h.oka
  obtain ⟨h1, h2, h3⟩ := h.small
  have h4 := h.sum
  have h5 := allOk_nn ha
  simp only [sumL] at h4
  have : x.t.size = 0 := by rw [(pl_n ox (by omega)).2]; rfl
  exact ⟨ox, by omega, by omega⟩
theorem JOk.layBoth {a b : List Pt} {x y : Pt} {s : WS} {S : Int} {L A : Nat} (h : JOk (x :: a) (y :: b) s S L A) (hx : x.k ≠ 3) (hy : y.k ≠ 2) {m : Nat} (hm : min (pl x) (pl y) = m) :
    (okP (cut x 0 m) ∧ S + (cut x 0 m).n ≤ 9223372036854775807 ∧ A + (cut x 0 m).t.size ≤ 100000000) ∧ (x.k = 1 → okP (cut y 0 m) ∧ S + (cut y 0 m).n ≤ 9223372036854775807 ∧ A + (cut y 0 m).t.size ≤ 100000000) ∧ (cut x 0 m).k = x.k ∧ (cut y 0 m).k = y.k ∧ 1 ≤ m := by
  obtain ⟨ox, ha⟩ := allOk_cons h.oka
  obtain ⟨oy, hb⟩ := allOk_cons h.okb
  have p1 := pl_pos ox
  have p2 := pl_pos oy
  obtain ⟨h1, h2, h3⟩ := h.small
  have h4 := h.sum
  have h5 := allOk_nn ha
  have h6 := h.txt
  simp only [sumL, textL] at h4 h6
  obtain ⟨cx, cxl, cxk⟩ := cut_ok ox (a := 0) (m := m) (by omega) (by omega)
  obtain ⟨cy, cyl, cyk⟩ := cut_ok oy (a := 0) (m := m) (by omega) (by omega)
  refine ⟨?_, fun hx1 => ?_, cxk, cyk, by omega⟩
  · by_cases x2 : x.k = 2
    · have e1 := pl_t ox x2
      have e2 := pl_t cx (by omega)
      exact ⟨cx, by omega, by omega⟩
    · have e1 := pl_n ox x2
      have e2 := pl_n cx (by omega)
      have : (cut x 0 m).t.size = 0 := by rw [e2.2]; rfl
      exact ⟨cx, by omega, by omega⟩
  · have e1 := pl_n ox (by omega)
    have e2 := pl_n cy (by omega)
    have : (cut y 0 m).t.size = 0 := by rw [e2.2]; rfl
    exact ⟨cy, by omega, by omega⟩
end Go.Proofs.YtdlolnahbgecjaaDoor
namespace Go.Proofs.YtdlolnahbgecjaaDoor
open Go.RowKit
set_option linter.unusedVariables false

theorem Sl.tail {w : World} {g off cap : Nat} {y : Pt} {r : List Pt} (h : Sl w (.slice (some ⟨g, off, none⟩) (r.length + 1) cap) (y :: r) g) (hc : cap ≠ 1) : Sl w (.slice (some ⟨g, off + 3, none⟩) r.length (cap - 1)) r g := by
  obtain ⟨ao, o, c, hv, h1, h2, h3⟩ := h
  obtain ⟨rfl, h4⟩ := h2 (by simp)
  simp only [Value.slice.injEq, Option.some.injEq, Addr.mk.injEq, true_and, and_true] at hv
  obtain ⟨rfl, _, rfl⟩ := hv
  simp only [List.length_cons] at h1
  exact ⟨_, off + 3, cap - 1, rfl, by omega, fun _ => ⟨rfl, h4⟩, h3.tail⟩
theorem Sl.form {w : World} {v : Value} {y : Pt} {r : List Pt} {g : Nat} (h : Sl w v (y :: r) g) : ∃ off cap, v = .slice (some ⟨g, off, none⟩) (r.length + 1) cap ∧ r.length + 1 ≤ cap ∧ g < w.heap.size ∧ At w g off (y :: r) := by
  obtain ⟨ao, o, c, hv, h1, h2, h3⟩ := h
  obtain ⟨rfl, h4⟩ := h2 (by simp)
  exact ⟨o, c, hv, h1, h4, h3⟩
theorem Sl.form0 {w : World} {v : Value} {g : Nat} (h : Sl w v [] g) : ∃ ao cap, v = .slice ao 0 cap := by
  obtain ⟨ao, o, c, hv, _⟩ := h
  exact ⟨ao, c, hv⟩
/-- what the walk needs of a push -/
theorem rj_pushB {w0 wr : World} {va vb vo : Value} {a b : List Pt} {y : Pt} {s : WS} {ga gb : Nat} {S : Int} {L A : Nat} (h : RJ w0 wr va vb vo a (y :: b) s ga gb) (hj : JOk a (y :: b) s S L A) (hy : y.k = 2) :
    Calls Tryd.prog 33 #[vo, .agg #[.int .i64 y.k, .int .i64 y.n, .string y.t]] wr fun e w' => ∃ v', e = .returned v' ∧ RJ w0 w' va vb v' a (y :: b) (layP s y) ga gb := by
  obtain ⟨h1, h2, h3⟩ := hj.layAdd hy
  exact rj_push h hj.s y h1 h2 hj.small.2.1 h3
theorem rj_pushA {w0 wr : World} {va vb vo : Value} {a b : List Pt} {x : Pt} {s : WS} {ga gb : Nat} {S : Int} {L A : Nat} (h : RJ w0 wr va vb vo (x :: a) b s ga gb) (hj : JOk (x :: a) b s S L A) (hx : x.k = 3) :
    Calls Tryd.prog 33 #[vo, .agg #[.int .i64 x.k, .int .i64 x.n, .string x.t]] wr fun e w' => ∃ v', e = .returned v' ∧ RJ w0 w' va vb v' (x :: a) b (layP s x) ga gb := by
  obtain ⟨h1, h2, h3⟩ := hj.layDrop hx
  exact rj_push h hj.s x h1 h2 hj.small.2.1 h3
theorem RJ.tailB {w0 wr : World} {va vo : Value} {a b : List Pt} {y : Pt} {s : WS} {ga gb off cap : Nat} (h : RJ w0 wr va (.slice (some ⟨gb, off, none⟩) (b.length + 1) cap) vo a (y :: b) s ga gb) (hc : cap ≠ 1) : RJ w0 wr va (.slice (some ⟨gb, off + 3, none⟩) b.length (cap - 1)) vo a b s ga gb :=
  h.setB (h.sb.tail hc) (Or.inl rfl) (Below.refl _ _)
theorem RJ.tailA {w0 wr : World} {vb vo : Value} {a b : List Pt} {x : Pt} {s : WS} {ga gb off cap : Nat} (h : RJ w0 wr (.slice (some ⟨ga, off, none⟩) (a.length + 1) cap) vb vo (x :: a) b s ga gb) (hc : cap ≠ 1) : RJ w0 wr (.slice (some ⟨ga, off + 3, none⟩) a.length (cap - 1)) vb vo a b s ga gb :=
  h.setA (h.sa.tail hc) (Or.inl rfl) (Below.refl _ _)
theorem RJ.tailB1 {w0 wr : World} {va vb vo : Value} {a : List Pt} {y : Pt} {s : WS} {ga gb : Nat} (h : RJ w0 wr va vb vo a [y] s ga gb) (ao : Option Addr) (cap : Nat) : RJ w0 wr va (.slice ao 0 cap) vo a [] s ga gb :=
  h.setB (Sl.nil _ _ _ _) (Or.inl rfl) (Below.refl _ _)
theorem RJ.tailA1 {w0 wr : World} {va vb vo : Value} {b : List Pt} {x : Pt} {s : WS} {ga gb : Nat} (h : RJ w0 wr va vb vo [x] b s ga gb) (ao : Option Addr) (cap : Nat) : RJ w0 wr (.slice ao 0 cap) vb vo [] b s ga gb :=
  h.setA (Sl.nil _ _ _ _) (Or.inl rfl) (Below.refl _ _)
theorem stepJ_keep {s : WS} {x y : Pt} {m : Nat} (ox : okP x) (oy : okP y) (hx : x.k = 1) (hy : y.k ≠ 2) (h1 : 1 ≤ m) (h2 : m ≤ pl x) (h3 : m ≤ pl y) : stepJ s (cut x 0 m) (cut y 0 m) = layP s (cut y 0 m) := by
  obtain ⟨cx, cxl, cxk⟩ := cut_ok ox (a := 0) (m := m) h1 (by omega)
  obtain ⟨cy, cyl, cyk⟩ := cut_ok oy (a := 0) (m := m) h1 (by omega)
  unfold stepJ
  by_cases q : (cut y 0 m).k = 1
  · rw [if_pos q]
    have e : cut x 0 m = cut y 0 m := by
      have e1 := (pl_n ox (by omega)).2
      have e2 := (pl_n oy hy).2
      unfold cut; rw [if_neg (by omega), if_neg hy, e1, e2, hx, show y.k = 1 by omega]
    rw [e]
  · rw [if_neg q, if_pos (by omega)]
theorem made_le {l : List Pt} (h : allOk l) : (madeL l : Int) ≤ sumL l + textL l := by
  induction l with
  | nil => simp [madeL, sumL, textL]
  | cons p r ih =>
    obtain ⟨op, hr⟩ := allOk_cons h
    have := ih hr
    have hn := okP_nn op
    simp only [madeL, sumL, textL]
    split
    · omega
    · unfold pl; omega
theorem SOk.nn {s : WS} {S : Int} {L A : Nat} (h : SOk s S L A) : 0 ≤ S := by
  have h1 := h.w.sum
  have h2 := h.w.drop
  have h3 := sumL_nn h.w.nn
  omega
theorem JOk.nbd {a b : List Pt} {x y : Pt} {s : WS} {S : Int} {L A : Nat} (h : JOk (x :: a) (y :: b) s S L A) (hy : y.k ≠ 2) : x.n ≤ 9223372036854775807 ∧ y.n ≤ 9223372036854775807 ∧ a.length ≤ 100000000 ∧ b.length ≤ 100000000 ∧ x.t.size ≤ 10000000 := by
  obtain ⟨ox, ha⟩ := allOk_cons h.oka
  obtain ⟨oy, hb⟩ := allOk_cons h.okb
  have h0 := h.s.nn
  have h1 := h.sum
  have h2 := h.len
  have h3 := h.txt
  have h4 := allOk_nn ha
  have h5 := h.fit
  have h6 := made_le h.oka
  have h7 := (pl_n oy hy).1
  have h8 := okP_nn ox
  simp only [fromL, if_neg hy] at h5
  simp only [sumL, textL, List.length_cons] at h1 h2 h3 h6
  exact ⟨by omega, by omega, by omega, by omega, by omega⟩
theorem rj_headA {w0 wr : World} {va vb vo : Value} {x : Pt} {a b : List Pt} {s : WS} {ga gb : Nat} (h : RJ w0 wr va vb vo (x :: a) b s ga gb) (m : Nat) (hl : a.length ≤ 100000000) (ox : okP x) (hx : x.k ≠ 2) (hm : m ≤ pl x) (hn : x.n ≤ 9223372036854775807) :
    Calls Tryd.prog 34 #[va, .int .i64 m] wr fun e w' => ∃ v' g', e = .returned (.tuple #[.agg #[.int .i64 (cut x 0 m).k, .int .i64 (cut x 0 m).n, .string (cut x 0 m).t], v']) ∧ RJ w0 w' v' vb vo (restP x m ++ a) b s g' gb := by
  refine (head_any x a va ga wr m h.sa hl ox hx hm hn).mono ?_
  rintro e w' ⟨v', g', rfl, hs, hg, hb⟩
  exact ⟨v', g', rfl, h.setA hs hg hb⟩
theorem rj_headB {w0 wr : World} {va vb vo : Value} {y : Pt} {a b : List Pt} {s : WS} {ga gb : Nat} (h : RJ w0 wr va vb vo a (y :: b) s ga gb) (m : Nat) (hl : b.length ≤ 100000000) (oy : okP y) (hy : y.k ≠ 2) (hm : m ≤ pl y) (hn : y.n ≤ 9223372036854775807) :
    Calls Tryd.prog 34 #[vb, .int .i64 m] wr fun e w' => ∃ v' g', e = .returned (.tuple #[.agg #[.int .i64 (cut y 0 m).k, .int .i64 (cut y 0 m).n, .string (cut y 0 m).t], v']) ∧ RJ w0 w' va v' vo a (restP y m ++ b) s ga g' := by
  refine (head_any y b vb gb wr m h.sb hl oy hy hm hn).mono ?_
  rintro e w' ⟨v', g', rfl, hs, hg, hb⟩
  exact ⟨v', g', rfl, h.setB hs hg hb⟩
theorem Sl.cells {w : World} {g off cap : Nat} {y : Pt} {r : List Pt} (h : Sl w (.slice (some ⟨g, off, none⟩) (r.length + 1) cap) (y :: r) g) : At w g off (y :: r) ∧ g < w.heap.size := by
  obtain ⟨ao, o, c, hv, h1, h2, h3⟩ := h
  obtain ⟨rfl, h4⟩ := h2 (by simp)
  simp only [Value.slice.injEq, Option.some.injEq, Addr.mk.injEq, true_and, and_true] at hv
  obtain ⟨rfl, _, rfl⟩ := hv
  exact ⟨h3, h4⟩
theorem stepJ_add1 {s : WS} {p q : Pt} (h : q.k = 1) : stepJ s p q = layP s p := by unfold stepJ; rw [if_pos h]
theorem stepJ_add3 {s : WS} {p q : Pt} (h : q.k ≠ 1) (h2 : p.k ≠ 1) : stepJ s p q = s := by unfold stepJ; rw [if_neg h, if_neg h2]
theorem own_zero (w : World) : Own (w.alloc (.cells #[] 60)) w.heap.size (.slice (some ⟨w.heap.size, 0, none⟩) 0 0) [] :=
  ⟨rfl, Or.inr ⟨w.heap.size, 0, #[], rfl, Nat.le_refl _, heap_alloc_new w _, Nat.le_refl _, by unfold maxLen; omega, rfl, rfl⟩⟩
theorem RJ.setOwn {w0 wr w' : World} {va v vb vo : Value} {x : Pt} {a xa b : List Pt} {s : WS} {ga gb : Nat} (h : RJ w0 wr va vb vo (x :: a) b s ga gb) (ho : Own w' wr.heap.size v xa) (hb : Below wr.heap.size wr w') : ∃ g', RJ w0 w' v vb vo xa b s g' gb := by
  rcases Nat.eq_zero_or_pos xa.length with hz | hz
  · have : xa = [] := List.eq_nil_of_length_eq_zero hz
    subst this
    obtain ⟨ao, cap, rfl⟩ := own_slice60 ho
    exact ⟨ga, h.setA (Sl.nil _ _ _ _) (Or.inl rfl) hb⟩
  · obtain ⟨g, hs, hg⟩ := Own.sl ho
    exact ⟨g, h.setA hs (Or.inr (hg hz).1) hb⟩
end Go.Proofs.YtdlolnahbgecjaaDoor
