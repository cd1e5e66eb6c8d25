import Derived.Test.YtdlolnahbgecjaaDoorBase
import Derived.LaidEql
import Derived.Stop.Asserts
import Derived.RowKitTokens
import Derived.Deep.LoopGhost
namespace Go.Proofs.YtdlolnahbgecjaaDoor
open Go.RowKit Go.Extern.Stop Go.Stop Go.Extern

theorem Tryd.isTypeOf (v : Value) (w : World) : (Extern.ReflectliteType.typeOf #[.iface 149 v]).run Tryd.prog w = .ok (.iface 118 (.agg #[.pointer (some ⟨14, 149, none⟩)])) w := by kernel_rfl
theorem Tryd.comp104 (w : World) : (callFunc 104 #[.agg #[.pointer (some ⟨14, 149, none⟩)]]).run Tryd.prog w = .ok (.value (.bool true)) w := by kernel_rfl
theorem Tryd.isMethodComparable (v : Value) (w : World) : (Go.method 282 118 v "Comparable").run Tryd.prog w = .ok (104, v) w := by kernel_rfl
theorem Tryd.isComp : (Tryd.prog.info? 149).map (·.comparable) = some true := by kernel_rfl
theorem Tryd.isSize : (Tryd.prog.info? 171).map (·.size) = some 1 := by kernel_rfl
theorem Tryd.noIsE (v : Value) (xT : TypeId) (w : World) : (Instr.typeAssert (.iface 149 v) xT 120 true).run Tryd.prog w = .ok (.tuple #[.nilIface, .bool false]) w := run_typeAssert_lacksB Tryd.underlying120 (by kernel_rfl) (by kernel_rfl) v xT w
theorem Tryd.noUnwrapE (v : Value) (xT : TypeId) (w : World) : (Instr.typeAssert (.iface 149 v) xT 123 true).run Tryd.prog w = .ok (.tuple #[.nilIface, .bool false]) w := run_typeAssert_lacksB Tryd.underlying123 (by kernel_rfl) (by kernel_rfl) v xT w
theorem Tryd.noUnwrapsE (v : Value) (xT : TypeId) (w : World) : (Instr.typeAssert (.iface 149 v) xT 124 true).run Tryd.prog w = .ok (.tuple #[.nilIface, .bool false]) w := run_typeAssert_lacksB Tryd.underlying124 (by kernel_rfl) (by kernel_rfl) v xT w
theorem Tryd.noIsW (v : Value) (xT : TypeId) (w : World) : (Instr.typeAssert (.iface 76 v) xT 120 true).run Tryd.prog w = .ok (.tuple #[.nilIface, .bool false]) w := run_typeAssert_lacksB Tryd.underlying120 (by kernel_rfl) (by kernel_rfl) v xT w
theorem Tryd.hasUnwrapW (v : Value) (xT : TypeId) (w : World) : (Instr.typeAssert (.iface 76 v) xT 123 true).run Tryd.prog w = .ok (.tuple #[.iface 76 v, .bool true]) w := run_typeAssert_hasB Tryd.underlying123 (by kernel_rfl) v xT w
theorem Tryd.methodUnwrap (v : Value) (w : World) : (Go.method 282 76 v "Unwrap").run Tryd.prog w = .ok (100, v) w := by kernel_rfl

/-- v is an error that, unwrapped d times, is the sentinel at a. -/
def ErrOf (w : World) : Nat → Value → Addr → Prop
  | 0, v, a => v = .iface 149 (.pointer (some a))
  | d + 1, v, a => ∃ b v', v = .iface 76 (.pointer (some ⟨b, 0, none⟩)) ∧ w.cell? ⟨b, 1, none⟩ = some v' ∧ ErrOf w d v' a

theorem ErrOf.shape {w : World} {d : Nat} {v : Value} {a : Addr} (h : ErrOf w d v a) : ∃ t p, v = .iface t p := by
  cases d with
  | zero => exact ⟨_, _, h⟩
  | succ d => obtain ⟨b, v', h, _⟩ := h; exact ⟨_, _, h⟩

set_option maxRecDepth 100000 in
set_option maxHeartbeats 1000000 in
theorem is_loop (d : Nat) (v : Value) (a t : Addr) (ca ct : Array Value) (ta tt : TypeId) (w : World) (hE : ErrOf w d v a) (ha : w.heap[a.block]? = some (.cells ca ta (0, 0))) (ht : w.heap[t.block]? = some (.cells ct tt (0, 0))) :
    Calls Tryd.prog 55 #[v, .iface 149 (.pointer (some t)), .bool true] w fun e w' => e = .returned (.bool (decide (a = t))) ∧ w' = w := by
  obtain ⟨i, hi, hcmp⟩ := Option.map_eq_some_iff.1 Tryd.isComp
  obtain ⟨j, hj, hjs⟩ := Option.map_eq_some_iff.1 Tryd.isSize
  have nE := Tryd.noIsE
  have uE := Tryd.noUnwrapE
  have vE := Tryd.noUnwrapsE
  have nW := Tryd.noIsW
  have uW := Tryd.hasUnwrapW
  have mU := Tryd.methodUnwrap
  have HE : Hid (ErrOf w d v a) := hE
  clear hE
  go_enter Tryd.func55, Tryd.ntmps55
  go_wp2
  go_loopg [0] d (fun k u wr => wr = w ∧ ErrOf w k u a)
  case atStart => exact ⟨rfl, HE.out⟩
  case round =>
    obtain ⟨rfl, hr⟩ := hrel
    cases gk with
    | zero =>
      obtain rfl := hr
      by_cases hat : a = t
      · subst hat
        have heq := run_eql_iface_ptr_same (P := Tryd.prog) wr a Tryd.underlying55 Tryd.underlying149 hi hcmp hj
        go_wp2
        go_ret
        exact ⟨by simp, rfl⟩
      · have heq := run_eql_iface_ptr_other (P := Tryd.prog) wr Tryd.underlying55 Tryd.underlying149 hi hcmp hj (by rw [hjs]; decide) hat ha ht
        have HN : Hid (decide (a = t) = false) := by show _ = _; simp [hat]
        clear hat
        go_wp2
        go_ret
        exact ⟨congrArg (fun x => Ending.returned (.bool x)) HN.out.symm, rfl⟩
    | succ k =>
      obtain ⟨b, v', rfl, hc, hr'⟩ := hr
      have hty := run_eql_iface_types (P := Tryd.prog) 76 149 (.pointer (some ⟨b, 0, none⟩)) (.pointer (some t)) Tryd.underlying55 (by decide) wr
      obtain ⟨t', p', rfl⟩ := hr'.shape
      have HR : Hid (ErrOf wr k (.iface t' p') a) := hr'
      clear hr' HE ha ht hi hcmp hj hjs nE uE vE
      go_wp2
      go_roundg k
      case measure => omega
      case rel => exact ⟨rfl, HR.out⟩

set_option maxRecDepth 100000 in
set_option maxHeartbeats 1000000 in
theorem is_any (d : Nat) (v : Value) (a t : Addr) (ca ct : Array Value) (ta tt : TypeId) (w : World) (hE : ErrOf w d v a) (ha : w.heap[a.block]? = some (.cells ca ta (0, 0))) (ht : w.heap[t.block]? = some (.cells ct tt (0, 0))) :
    Calls Tryd.prog 39 #[v, .iface 149 (.pointer (some t))] w fun e w' => e = .returned (.bool (decide (a = t))) ∧ w' = w := by
  have h8 := @run_callFunc_extern Tryd.prog 54 _ Extern.ReflectliteType.typeOf Tryd.func54 (by kernel_rfl) (by kernel_rfl) (by kernel_rfl) (by kernel_rfl)
  have h32 := Tryd.comp104
  have tT := Tryd.isTypeOf
  have mR := Tryd.isMethodComparable
  obtain ⟨t', p', rfl⟩ := hE.shape
  have HL : Hid (Calls Tryd.prog 55 #[.iface t' p', .iface 149 (.pointer (some t)), .bool true] w fun e w' => e = .returned (.bool (decide (a = t))) ∧ w' = w) := is_loop d _ a t ca ct ta tt w hE ha ht
  generalize decide (a = t) = bb at *
  clear hE ha ht
  go_enter Tryd.func39, Tryd.ntmps39
  go_wp2_with (first | (go_at_call 55; refine HL.out.mono ?_; rintro e w' ⟨rfl, rfl⟩) | go_in)
  go_ret
  exact ⟨rfl, rfl⟩
end Go.Proofs.YtdlolnahbgecjaaDoor
