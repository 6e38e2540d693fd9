/-
  errors.Is at a sentinel and at nil; the program's test whether a number is too great. (Sy in the kit's own example: the dump's number of package-level variables stands in isTypeOf, isComparable: 1.)
-/
import Derived.Test.YtehibigjdbpikaaGreatDoorBase
import Derived.Test.YtehibigjdbpikaaGreatDoorSlice
import Derived.Test.YtehibigjdbpikaaGreatDoorIntRow
import Derived.Test.YtehibigjdbpikaaGreatDoorInts
import Derived.Test.YtehibigjdbpikaaGreatDoorTw
import Derived.WalkKit
import Derived.LaidEql
import Derived.LaidSub
import Derived.LaidMore
import Derived.Stop.Asserts
import Derived.Stop.LaidErr
import Derived.RowKitTokens
import Derived.Deep.QuietTactic
import Derived.BigQuiet
namespace Go.Proofs.YtehibigjdbpikaaGreatDoor
open Go.RowKit Go.Stop Go.Extern

namespace Er
theorem isComp : (Tryz.prog.info? 187).map (·.comparable) = some true := by kernel_rfl
theorem isSize : (Tryz.prog.info? 189).map (·.size) = some 1 := by kernel_rfl
theorem isTypeOf (v : Value) (w : World) : (Extern.ReflectliteType.typeOf #[.iface 187 v]).run Tryz.prog w = .ok (.iface 138 (.agg #[.pointer (some ⟨9, 187, none⟩)])) w := by kernel_rfl
theorem isComparable (w : World) : ((Extern.ReflectliteType.method fun t => do Extern.Rtype.noPackHeld "Comparable" t; (fun a => Value.bool a.comparable) <$> typeInfo t) #[.agg #[.pointer (some ⟨9, 187, none⟩)]]).run Tryz.prog w = .ok (.bool true) w := by kernel_rfl
theorem isMethod (v : Value) (w : World) : (Go.method 321 138 v "Comparable").run Tryz.prog w = .ok (217, v) w := by kernel_rfl
end Er

/-- errors.Is(x, x), x a pointer to an errors.errorString. -/
theorem is_same (a : Addr) (w : World) :
    Calls Tryz.prog 126 #[.iface 187 (.pointer (some a)), .iface 187 (.pointer (some a))] w fun e w' => e = .returned (.bool true) ∧ w' = w := by
  obtain ⟨i, hi, hcmp⟩ := Option.map_eq_some_iff.1 Er.isComp
  obtain ⟨j, hj, hjs⟩ := Option.map_eq_some_iff.1 Er.isSize
  have h8 := @run_callFunc_extern Tryz.prog 150 _ Extern.ReflectliteType.typeOf Tryz.func150 (by kernel_rfl) (by kernel_rfl) (by kernel_rfl) (by kernel_rfl)
  have h32 := @run_callFunc_extern Tryz.prog 217 _ (Extern.ReflectliteType.method fun t => do Extern.Rtype.noPackHeld "Comparable" t; pure (.bool (← typeInfo t).comparable)) Tryz.func217 (by kernel_rfl) (by kernel_rfl) (by kernel_rfl) (by kernel_rfl)
  have tT := Er.isTypeOf
  have cT := Er.isComparable
  have mR := Er.isMethod
  have heq := run_eql_iface_ptr_same (P := Tryz.prog) w a Tryz.underlying112 Tryz.underlying187 hi hcmp hj
  go_enter Tryz.func126, Tryz.ntmps126
  go_wp2
  refine wp_loop_rounds 1 ?_
  rw [rounds_succ]
  go_wp2
  go_ret
  exact ⟨rfl, rfl⟩
/-- errors.Is(nil, x). -/
theorem is_nil (b : Addr) (w : World) :
    Calls Tryz.prog 126 #[.nilIface, .iface 187 (.pointer (some b))] w fun e w' => e = .returned (.bool false) ∧ w' = w := by
  have hn := run_eql_iface_nil_left (P := Tryz.prog) (w := w) 187 (.pointer (some b)) Tryz.underlying112
  go_enter Tryz.func126, Tryz.ntmps126
  go_wp2
  go_ret
  exact ⟨rfl, rfl⟩

namespace Er
theorem gGreat : Tryz.prog.globalNamed "loop.example/g03105/impl.errTooGreat" = some 0 := by kernel_rfl
theorem tGreat : (Tryz.prog.globals[0]?).map (·.type) = some 112 := by kernel_rfl
theorem cErr : Tryz.prog.cellsOf 189 = 1 := by kernel_rfl
theorem cStr : Tryz.prog.cellsOf 9 = 1 := by kernel_rfl
theorem star : "*" ++ "errors.errorString" = "*errors.errorString" := by decide
theorem rowErr (u : TypeId) (h : Tryz.prog.typeName? 3 u = some "*errors.errorString") : u = 187 :=
  typeName_ptr_named (nm := "errors.errorString") (by rw [star]; kernel_rfl) (by kernel_rfl) (by decide) u (by rw [star]; exact h)
end Er
/-- The error of numbers that are too great is one of errors.New's make. -/
def Errs (w : World) : Prop := ∃ a : Addr, w.cell? ⟨0, 0, none⟩ = some (.iface 187 (.pointer (some a)))
theorem Errs.keeps {w w' : World} (h : Errs w) (hb : Below w.heap.size w w') : Errs w' := by
  obtain ⟨a, h⟩ := h
  have hlt := World.block_lt_of_cell? w _ h
  exact ⟨a, by rw [hb.cell hlt]; exact h⟩
theorem Er.var_of {L : List (String × DataW Unit)} {W : World} (h : laidMetH Tryz.prog L W)
    (h1 : L.filter (fun x => x.1 == "loop.example/g03105/impl.errTooGreat") = [("loop.example/g03105/impl.errTooGreat", Rows.laid_loop_example_g03105_impl_errTooGreat)]) : ∃ a : Addr, W.var? Tryz.prog "loop.example/g03105/impl.errTooGreat" = some #[.iface 187 (.pointer (some a))] := by
  have g := laidMetH.filter (fun x => x.1 == "loop.example/g03105/impl.errTooGreat") h
  rw [h1] at g
  obtain ⟨a, s, hv, -, -, -⟩ := laid_sentinel (r := []) g Er.gGreat Er.tGreat Tryz.underlying112 Er.rowErr Tryz.underlying187 Tryz.underlying189 rfl rfl Tryz.underlying9 Er.cErr Er.cStr
  exact ⟨a, hv⟩
theorem Er.var_keeps {P : Program} {g : Nat} {W W' : World} {n : String} {cs : Array Value} (h : Below W.heap.size W W') (hg : P.globalNamed n = some g) (hv : W.var? P n = some cs) : W'.var? P n = some cs := by
  have h1 := hv
  unfold World.var? at h1
  simp only [hg, Option.bind_some] at h1
  rcases Nat.lt_or_ge g W.heap.size with hl | hl
  · exact var_below h hg hl hv
  · rw [Array.getElem?_eq_none hl] at h1
    cases h1
theorem errs_of {L : List (String × DataW Unit)} {W : World} (h : laidMetH Tryz.prog L W)
    (h1 : L.filter (fun x => x.1 == "loop.example/g03105/impl.errTooGreat") = [("loop.example/g03105/impl.errTooGreat", Rows.laid_loop_example_g03105_impl_errTooGreat)]) : Errs W := by
  obtain ⟨a, hv⟩ := Er.var_of h h1
  have hc := World.var?_cell Er.gGreat hv 0
  exact ⟨a, by rw [hc]; rfl⟩

def Er.val (l : List Int) (a : Addr) : Value := if Tw.Fits l then .nilIface else .iface 187 (.pointer (some a))
set_option maxRecDepth 10000 in
set_option maxHeartbeats 400000 in
theorem impl_checkMagnitudes (p : Addr) (a : Option Addr) (c : Nat) (l : List Int) (w : World) (hE : w.cell? ⟨0, 0, none⟩ = some (.iface 187 (.pointer (some p)))) (ha : RowAt w a (intCells l)) (hl : l.length ≤ 9223372036854775807) :
    Calls Tryz.prog 127 #[.slice a l.length c] w fun e w' => e = .returned (Er.val l p) ∧ w' = w := by
  go_enter Tryz.func127, Tryz.ntmps127
  go_wp2
  go_loopw [2, 4, 7] (fun rv _ iv wr => rv = .nilIface ∧ ∃ i : Nat, i ≤ l.length ∧ iv = .int .i64 i ∧ wr = w ∧ Hid (∀ j x, l[j]? = some x → j < i → -1000 ≤ x ∧ x ≤ 1000)) (fun _ _ iv _ => l.length - (intOf iv).toNat)
  case atStart => exact ⟨rfl, 0, by omega, rfl, rfl, Lib.hid (fun j x _ h => by omega)⟩
  case round =>
    obtain ⟨rfl, i, hi, rfl, rfl, hall⟩ := hrel
    by_cases hlt : i < l.length
    · obtain ⟨b, o, rfl, hbw, hcell⟩ := intCells_at ha hlt
      have Hx : Hid (l[i]? = some l[i]) := Lib.hid (List.getElem?_eq_getElem hlt)
      generalize l[i] = x at *
      by_cases h1 : x < -1000
      · have hv : Er.val l p = .iface 187 (.pointer (some p)) := if_neg fun h => by have := h x (List.mem_of_getElem? Hx.out); omega
        have Hv := Lib.hid hv; clear hv
        go_wp2
        go_ret
        exact ⟨by rw [Hv.out]; rfl, rfl⟩
      · by_cases h2 : 1000 < x
        · have hv : Er.val l p = .iface 187 (.pointer (some p)) := if_neg fun h => by have := h x (List.mem_of_getElem? Hx.out); omega
          have Hv := Lib.hid hv; clear hv
          go_wp2
          go_ret
          exact ⟨by rw [Hv.out]; rfl, rfl⟩
        · go_wp2
          go_roundw
          case rel => exact ⟨rfl, i + 1, by omega, by go_num, trivial, Lib.hid (fun j y hy h => by
            rcases Nat.lt_or_ge j i with h' | h'
            · exact hall.out j y hy h'
            · obtain rfl : j = i := by omega
              rw [Hx.out] at hy
              cases hy; omega)⟩
          case measure => simp [intOf]; omega
    · obtain rfl : i = l.length := by omega
      have hv : Er.val l p = .nilIface := if_pos fun y hy => by
        obtain ⟨j, hj, rfl⟩ := List.mem_iff_getElem.1 hy
        exact hall.out j _ (List.getElem?_eq_getElem hj) hj
      have Hv := Lib.hid hv; clear hv
      go_wp2
      go_ret
      exact ⟨by rw [Hv.out]; rfl, rfl⟩
set_option maxRecDepth 10000 in
set_option maxHeartbeats 400000 in
theorem impl_areTooGreat (a : Option Addr) (c : Nat) (l : List Int) (w : World) (hE : Errs w) (ha : RowAt w a (intCells l)) (hl : l.length ≤ 9223372036854775807) :
    Calls Tryz.prog 95 #[.slice a l.length c] w fun e w' => e = .returned (.bool (!decide (Tw.Fits l))) ∧ Below w.heap.size w w' := by
  obtain ⟨p, hE⟩ := hE
  have hE2 : w.drew.cell? ⟨0, 0, none⟩ = some (.iface 187 (.pointer (some p))) := hE
  have hC := fun q => impl_checkMagnitudes p a c l (w.drewN q) hE ha hl
  by_cases hF : Tw.Fits l
  · rw [show Er.val l p = .nilIface from if_pos hF] at hC
    rw [decide_eq_true hF]
    have HC := Lib.hid hC
    clear hC hF
    go_enter Tryz.func95, Tryz.ntmps95
    go_wp2
    go_quiet (first | exact Calls.quiet_of_same (HC.out _) | exact Calls.quiet_of_same (is_nil p _))
    all_goals go_wp2
    all_goals
      go_ret
      exact ⟨rfl, below_drewN (Below.refl _ _) _⟩
  · rw [show Er.val l p = .iface 187 (.pointer (some p)) from if_neg hF] at hC
    rw [decide_eq_false hF]
    have HC := Lib.hid hC
    clear hC hF
    go_enter Tryz.func95, Tryz.ntmps95
    go_wp2
    go_quiet (first | exact Calls.quiet_of_same (HC.out _) | exact Calls.quiet_of_same (is_same p _))
    all_goals go_wp2
    all_goals
      go_ret
      exact ⟨rfl, below_drewN (Below.refl _ _) _⟩
end Go.Proofs.YtehibigjdbpikaaGreatDoor
