import Derived.Test.YtdlolnahbgecjaaDoorEnv
import Derived.Test.YtdlolnahbgecjaaDoorOurs
namespace Go.Proofs.YtdlolnahbgecjaaDoor
open Go.RowKit

theorem addStr (a b : ByteArray) (n m : Nat) (ha : a.size ≤ n) (hb : b.size ≤ m) (h : n + m ≤ 1000000) : ∃ s : ByteArray, s.size ≤ n + m ∧ ∀ w, (Op.stringOp .add a b).run Tryd.prog w = .ok (.string s) w :=
  ⟨a ++ b, by rw [ByteArray.size_append]; omega, fun w => run_string_add_sum (w := w) a b (by omega)⟩
def ptVal (p : Pt) : Value := .agg #[.int .i64 p.k, .int .i64 p.n, .string p.t]

/-- an error of depth 1, boxed in a new block -/
theorem errIs_new {w : World} {a : Addr} {n : Nat} (hn : w.heap.size = n) (s : ByteArray) : ErrIs (w.alloc (.cells #[.string s, .iface 149 (.pointer (some a))] 78)) (.iface 76 (.pointer (some ⟨n, 0, none⟩))) (some a) := by
  subst hn
  exact ⟨1, ErrOf.wrap (d := 0) rfl s⟩

set_option maxRecDepth 100000 in
set_option maxHeartbeats 1000000 in
theorem checkPart_any {N : Nat} {f c : Addr} (p : Pt) (w : World) (E : Env N f c w) (hk0 : -9223372036854775808 ≤ p.k) (hk1 : p.k ≤ 9223372036854775807) (hts : p.t.size ≤ 1048576) :
    Calls Tryd.prog 50 #[.agg #[.int .i64 p.k, .int .i64 p.n, .string p.t]] w fun e w' => ∃ v, e = .returned v ∧ ErrIs w' v (if okPt p then none else some c) ∧ Below w.heap.size w w' := by
  have gc := E.gc
  have gsz : 1 < w.heap.size := by have := E.six; have := E.le; omega
  obtain ⟨pk, pn, pt⟩ := p
  simp only at *
  by_cases h1 : pk = 1 ∨ pk = 3
  · have h12 : (pk == 2) = false := by simp; omega
    by_cases hn : pn ≤ 0
    · have HR : Hid ((if okPt ⟨pk, pn, pt⟩ then none else some c) = some c) := by show _ = _; rw [if_neg]; simp [okPt, show ¬ 1 ≤ pn by omega]; omega
      rw [HR.out]
      rcases h1 with rfl | rfl
      all_goals
        go_enter Tryd.func50, Tryd.ntmps50
        go_wp2
        go_ret
        exact ⟨.iface 76 (.pointer (some ⟨w.heap.size + 1, 0, none⟩)), rfl, errIs_new (by simp) _, ((Below.refl _ _).alloc (Nat.le_refl _) _).alloc (by simp) _⟩
    · cases ht : pt.toList.isEmpty with
      | false =>
        have HR : Hid ((if okPt ⟨pk, pn, pt⟩ then none else some c) = some c) := by show _ = _; rw [if_neg]; simp only [okPt, ht]; simp; omega
        rw [HR.out]
        rcases h1 with rfl | rfl
        all_goals
          go_enter Tryd.func50, Tryd.ntmps50
          go_wp2
          go_ret
          exact ⟨.iface 76 (.pointer (some ⟨w.heap.size + 1, 0, none⟩)), rfl, errIs_new (by simp) _, ((Below.refl _ _).alloc (Nat.le_refl _) _).alloc (by simp) _⟩
      | true =>
        have HR : Hid ((if okPt ⟨pk, pn, pt⟩ then none else some c) = none) := by show _ = _; rw [if_pos]; simp only [okPt, ht]; simp; omega
        rw [HR.out]
        rcases h1 with rfl | rfl
        all_goals
          go_enter Tryd.func50, Tryd.ntmps50
          go_wp2
          go_ret
          exact ⟨_, rfl, rfl, (Below.refl _ _).alloc (Nat.le_refl _) _⟩
  · by_cases h2 : pk = 2
    · subst h2
      by_cases hn : pn = 0
      · subst hn
        cases ht : pt.toList.isEmpty with
        | false =>
          have HR : Hid ((if okPt ⟨2, 0, pt⟩ then none else some c) = none) := by show _ = _; rw [if_pos]; simp [okPt, ht]
          rw [HR.out]
          go_enter Tryd.func50, Tryd.ntmps50
          go_wp2
          go_ret
          exact ⟨_, rfl, rfl, (Below.refl _ _).alloc (Nat.le_refl _) _⟩
        | true =>
          have HR : Hid ((if okPt ⟨2, 0, pt⟩ then none else some c) = some c) := by show _ = _; rw [if_neg]; simp [okPt, ht]
          rw [HR.out]
          go_enter Tryd.func50, Tryd.ntmps50
          go_wp2
          go_ret
          exact ⟨.iface 76 (.pointer (some ⟨w.heap.size + 1, 0, none⟩)), rfl, errIs_new (by simp) _, ((Below.refl _ _).alloc (Nat.le_refl _) _).alloc (by simp) _⟩
      · have HR : Hid ((if okPt ⟨2, pn, pt⟩ then none else some c) = some c) := by show _ = _; rw [if_neg]; simp [okPt, hn]
        rw [HR.out]
        have hn' : (pn != 0) = true := by rw [bne_iff_ne]; exact hn
        clear hn
        go_enter Tryd.func50, Tryd.ntmps50
        go_wp2
        go_ret
        exact ⟨.iface 76 (.pointer (some ⟨w.heap.size + 1, 0, none⟩)), rfl, errIs_new (by simp) _, ((Below.refl _ _).alloc (Nat.le_refl _) _).alloc (by simp) _⟩
    · have HR : Hid ((if okPt ⟨pk, pn, pt⟩ then none else some c) = some c) := by show _ = _; rw [if_neg]; simp [okPt, h2]; omega
      rw [HR.out]
      have g1 : (pk == 1) = false := by simp; omega
      have g2 : (pk == 2) = false := by simp; omega
      have g3 : (pk == 3) = false := by simp; omega
      clear h1 h2
      go_enter Tryd.func50, Tryd.ntmps50
      go_wp2
      go_region_held3 (fun w' => w'.cell? ⟨w.heap.size, 0, none⟩ = some (.int .i64 pk) ∧ w'.cell? ⟨1, 0, none⟩ = some (.iface 149 (.pointer (some c))))
        (first
          | go_keep
          | (go_split_ands
             refine ⟨?_, ?_⟩
             · (rw [hb.cell (p := ⟨w.heap.size, 0, none⟩) (by simp)]; simp)
             · (rw [hb.cell (p := ⟨1, 0, none⟩) (by simp; omega)]; simp; assumption)))
        ((go_at_call 38; refine (itoa_any (N := N) (f := f) (c := c) pk _ (by exact E.here (((Below.refl _ _).alloc (Nat.le_refl _) _).drew)) hk0 hk1).mono ?_; rintro e w1 ⟨s, rfl, hs, hb⟩; obtain ⟨s2, hs2, hadd⟩ := addStr ⟨#[107, 105, 110, 100, 32]⟩ s 5 21 (by decide) hs (by omega)))
      have hb2 : Hid (Below w.heap.size w w1) := ((Below.refl _ _).alloc (Nat.le_refl _) _).drew.trans (hb.mono (by simp))
      go_wp2
      go_ret
      exact ⟨.iface 76 (.pointer (some ⟨w1.heap.size, 0, none⟩)), rfl, errIs_new rfl _, hb2.out.alloc hb2.out.size _⟩
end Go.Proofs.YtdlolnahbgecjaaDoor
namespace Go.Proofs.YtdlolnahbgecjaaDoor
open Go.RowKit

/-- no error where it holds, else that of the sentinel -/
def errC (b : Bool) (c : Addr) : Option Addr := if b then none else some c
theorem size_le_text (ps : List Pt) (k : Nat) (h : k < ps.length) : (nth ps k).t.size ≤ textTo ps ps.length := by
  have := textTo_le ps (show k + 1 ≤ ps.length by omega)
  simp only [textTo] at this
  omega
theorem errIs_wrap {w : World} {a : Addr} {n : Nat} {v : Value} (hv : ErrIs w v (some a)) (hn : w.heap.size = n) (s : ByteArray) : ErrIs (w.alloc (.cells #[.string s, v] 78)) (.iface 76 (.pointer (some ⟨n, 0, none⟩))) (some a) := by
  subst hn
  obtain ⟨d, hv⟩ := hv
  exact ⟨d + 1, ErrOf.wrap hv s⟩

set_option maxRecDepth 100000 in
set_option maxHeartbeats 1000000 in
theorem check_pos {N : Nat} {f c : Addr} (ps : List Pt) (b off cap : Nat) (w : World) (E : Env N f c w) (A : Arg w ps (some ⟨b, off, none⟩) b off) (hz : 0 < ps.length) :
    Calls Tryd.prog 36 #[.slice (some ⟨b, off, none⟩) ps.length cap] w fun e w' => ∃ v, e = .returned v ∧ ErrIs w' v (errC (Good ps) c) ∧ Below w.heap.size w w' := by
  have hblt := A.lt hz
  have hlen := A.len
  go_enter Tryd.func36, Tryd.ntmps36
  go_wp2
  go_loopw [8] (fun i wr => ∃ k : Nat, k ≤ ps.length ∧ i = .int .i64 k ∧ goodTo ps k ∧ Below w.heap.size w wr) (fun i _ => ps.length - (intOf i).toNat)
  case atStart => exact ⟨0, Nat.zero_le _, rfl, fun i hi => by omega, Below.refl _ _⟩
  case round =>
    obtain ⟨k, hk, rfl, hg, hbl⟩ := hrel
    have HG : Hid (goodTo ps k) := hg
    clear hg
    by_cases hlt : k < ps.length
    · obtain ⟨c0, c1, c2⟩ := A.cells k hlt
      have d0 := (hbl.cell (p := ⟨b, off + k * 3, none⟩) hblt).trans c0
      have d1 := (hbl.cell (p := ⟨b, off + k * 3 + 1, none⟩) hblt).trans c1
      have d2 := (hbl.cell (p := ⟨b, off + k * 3 + 2, none⟩) hblt).trans c2
      clear c0 c1 c2
      have hsz := hbl.size
      have hkk := A.kind k
      have htx := A.text
      have hts := size_le_text ps k hlt
      have HE : Hid (Env N f c wr) := E.here hbl
      obtain ⟨p, hp⟩ : ∃ p, p = nth ps k := ⟨_, rfl⟩
      rw [← hp] at d0 d1 d2 hkk hts
      have HP : Hid (p = nth ps k) := hp
      clear hp
      cases hok : okPt p with
      | true =>
        have fin : Hid (∀ i, i < k + 1 → okPt (nth ps i) = true) := fun i hi => by
          by_cases e : i = k
          · subst e; rw [← HP.out]; exact hok
          · exact HG.out i (by omega)
        have HC : Hid (∀ wx, Env N f c wx → Calls Tryd.prog 50 #[.agg #[.int .i64 p.k, .int .i64 p.n, .string p.t]] wx fun e w' => e = .returned .nilIface ∧ Below wx.heap.size wx w') := fun wx Ex => by
          refine (checkPart_any p wx Ex hkk.1 hkk.2 (by omega)).mono ?_
          rw [if_pos hok]
          rintro e w1 ⟨v, rfl, rfl, hb⟩
          exact ⟨rfl, hb⟩
        clear hok
        go_wp2_with (go_at_call 50; refine (HC.out _ (by exact HE.out.here ((Below.refl _ _).alloc (Nat.le_refl _) _))).mono ?_; rintro e w1 ⟨rfl, hb1⟩)
        go_roundw
        case rel => exact ⟨k + 1, by omega, by go_num, fin.out, (hbl.alloc hsz _).trans (hb1.mono (by simp; omega))⟩
        case measure => simp [intOf]; omega
      | false =>
        have hbad : Hid ((errC (Good ps) c) = some c) := by show _ = _; rw [bad_of ps k hlt (by rw [← HP.out]; exact hok)]; rfl
        have HC : Hid (∀ wx, Env N f c wx → Calls Tryd.prog 50 #[.agg #[.int .i64 p.k, .int .i64 p.n, .string p.t]] wx fun e w' => ∃ t' p', e = .returned (.iface t' p') ∧ ErrIs w' (.iface t' p') (some c) ∧ Below wx.heap.size wx w') := fun wx Ex => by
          refine (checkPart_any p wx Ex hkk.1 hkk.2 (by omega)).mono ?_
          rw [if_neg (by simp [hok])]
          rintro e w1 ⟨v, rfl, ⟨d, hv⟩, hb⟩
          obtain ⟨t', p', rfl⟩ := hv.shape
          exact ⟨t', p', rfl, ⟨d, hv⟩, hb⟩
        clear hok
        go_wp2_with (first | (go_at_call 50; refine (HC.out _ (by exact HE.out.here ((Below.refl _ _).alloc (Nat.le_refl _) _))).mono ?_; rintro e w1 ⟨t', p', rfl, hv1, hb1⟩; have HV : Hid (ErrIs w1 (.iface t' p') (some c)) := hv1; clear hv1) | (go_at_call 38; refine (itoa_any (N := N) (f := f) (c := c) k _ (by exact (HE.out.here ((Below.refl _ _).alloc (Nat.le_refl _) _)).here hb1) (by omega) (by omega)).mono ?_; rintro e w2 ⟨s, rfl, hs, hb2⟩; obtain ⟨s2, hs2, hadd⟩ := addStr ⟨#[112, 97, 114, 116, 32]⟩ s 5 21 (by decide) hs (by omega)))
        go_ret
        refine ⟨.iface 76 (.pointer (some ⟨w2.heap.size, 0, none⟩)), rfl, ?_, ?_⟩
        · rw [hbad.out]; exact errIs_wrap (HV.out.below hb2) rfl _
        · exact ((hbl.alloc hsz _).trans ((hb1.trans (hb2.mono hb1.size)).mono (by simp; omega))).alloc (by have := hb1.size; have := hb2.size; simp at *; omega) _
    · have hfin : Hid (Good ps = true) := good_of ps (by rw [show ps.length = k by omega]; exact HG.out)
      go_wp2
      go_ret
      exact ⟨_, rfl, by rw [hfin.out]; rfl, hbl⟩

set_option maxRecDepth 100000 in
set_option maxHeartbeats 1000000 in
theorem check_any {N : Nat} {f c : Addr} (ps : List Pt) (ao : Option Addr) (b off cap : Nat) (w : World) (E : Env N f c w) (A : Arg w ps ao b off) :
    Calls Tryd.prog 36 #[.slice ao ps.length cap] w fun e w' => ∃ v, e = .returned v ∧ ErrIs w' v (errC (Good ps) c) ∧ Below w.heap.size w w' := by
  rcases Nat.eq_zero_or_pos ps.length with hz | hz
  · have hF : Good ps = true := good_of ps (by rw [hz]; intro i hi; omega)
    rw [hF, hz]
    clear hF A hz E
    go_enter Tryd.func36, Tryd.ntmps36
    go_wp2
    refine wp_loop_rounds 1 ?_
    rw [rounds_succ]
    go_wp2
    go_ret
    exact ⟨_, rfl, rfl, Below.refl _ _⟩
  · obtain rfl := A.ao hz
    exact check_pos ps b off cap w E A hz
end Go.Proofs.YtdlolnahbgecjaaDoor
