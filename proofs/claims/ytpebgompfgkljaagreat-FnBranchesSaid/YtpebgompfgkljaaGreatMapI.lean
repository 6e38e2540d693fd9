/-
  The walks of the library's Index and Delete over integers, of takeOut and of dropMates.
-/
import Derived.Test.YtpebgompfgkljaaGreatBase
import Derived.Test.YtpebgompfgkljaaGreatSlice
import Derived.Test.YtpebgompfgkljaaGreatInts
import Derived.Test.YtpebgompfgkljaaGreatGrid
import Derived.Test.YtpebgompfgkljaaGreatGridRows
import Derived.Test.YtpebgompfgkljaaGreatOwn
import Derived.Test.YtpebgompfgkljaaGreatAppend
import Derived.Test.YtpebgompfgkljaaGreatClass
import Derived.Test.YtpebgompfgkljaaGreatLab
import Derived.Test.YtpebgompfgkljaaGreatMap
import Derived.Test.YtpebgompfgkljaaGreatMapA
import Derived.Test.YtpebgompfgkljaaGreatMapB
import Derived.Test.YtpebgompfgkljaaGreatPut
import Derived.Test.YtpebgompfgkljaaGreatMapTopo
import Derived.Deep.QuietTactic
import Derived.BigQuiet
import Derived.Deep.RegionLaw
import Derived.StillTailTactics
import Derived.Lib.SliceRun
namespace Go.Proofs.YtpebgompfgkljaaGreat
open Go.RowKit

set_option maxRecDepth 10000 in
set_option maxHeartbeats 1000000 in
/-- Where a number stands that occurs once. -/
theorem lib_IndexAt (a : Option Addr) (cap n q : Nat) (f : Nat → Nat) (x : Nat) (zx : Int) (hzx : zx = ((x : Nat) : Int)) (w : World) (ha : RowAt w a (intCells (Cls.row f n))) (hq : q < n) (hfq : f q = x) (hone : ∀ j, j < n → f j = x → j = q) (hn : n ≤ 1000) :
    Calls Tryz.prog 72 #[.slice a n cap, .int .i64 zx] w fun e w' => e = .returned (.int .i64 (q : Int)) ∧ w' = w := by
  have hcells : ∀ j, j < n → ∃ b o, a = some ⟨b, o, none⟩ ∧ w.cell? ⟨b, o + j, none⟩ = some (.int .i64 ((f j : Nat) : Int)) := fun j hj => by
    obtain ⟨b, o, e, _, hc⟩ := intCells_get? ha (Cls.row_get hj)
    exact ⟨b, o, e, hc⟩
  have Hcells := Lib.hid hcells; have Hone := Lib.hid hone; have Hfq := Lib.hid hfq
  clear ha hcells hone hfq
  go_enter Tryz.func72, Tryz.ntmps72
  go_wp2
  go_loopw [5, 8] (fun _ iv wr => ∃ i : Nat, i ≤ q ∧ iv = .int .i64 i ∧ wr = w) (fun _ iv _ => n - (intOf iv).toNat)
  case atStart => exact ⟨0, by omega, rfl, rfl⟩
  case round =>
    obtain ⟨i, hi, rfl, rfl⟩ := hrel
    have hlt : i < n := by omega
    obtain ⟨b, o, rfl, hcell⟩ := Hcells.out i hlt
    have hlti : (i : Int) < (n : Int) := by omega
    by_cases he : f i = x
    · have Hiq := Lib.hid (Hone.out i hlt he)
      have heq : (zx == ((f i : Nat) : Int)) = true := by rw [he, hzx]; simp
      have Hzx := Lib.hid hzx
      clear he hzx
      generalize ((f i : Nat) : Int) = y at *
      go_wp2
      go_ret
      exact ⟨by rw [Hiq.out]; rfl, rfl⟩
    · have hne : i ≠ q := fun e => he (by rw [e]; exact Hfq.out)
      have heq : (zx == ((f i : Nat) : Int)) = false := beq_eq_false_iff_ne.2 (by omega)
      have Hzx := Lib.hid hzx
      clear he hzx
      generalize ((f i : Nat) : Int) = y at *
      go_wp2
      go_roundw
      case rel => exact ⟨i + 1, by omega, by go_num, trivial⟩
      case measure => simp [intOf]; omega


theorem Mp.out_swp {f : Nat → Nat} {d q : Nat} (h : f q = d) (k : Nat) : Mp.upd (Mp.upd f q (f d)) d d k = Mp.swp f d q k := by
  unfold Mp.upd Mp.swp
  by_cases h1 : k = d
  · rw [if_pos h1, if_pos h1, h]
  · rw [if_neg h1, if_neg h1]

namespace Mp
theorem row_but (f : Nat → Nat) {n a : Nat} (ha : a ≤ n) : (intCells (Cls.row f (n + 2))).take a ++ (intCells (Cls.row f (n + 2))).drop (a + 2) = intCells (Cls.row (fun x => f (up2 a x)) n) := by
  apply List.ext_getElem?
  intro k
  have hl : (intCells (Cls.row f (n + 2))).length = n + 2 := by rw [intCells_len, Cls.row_len]
  by_cases hk : k < n
  · have e : (intCells (Cls.row (fun x => f (up2 a x)) n))[k]? = some (.int .i64 ((f (up2 a k) : Nat) : Int)) := by simp [intCells, Cls.row_get hk]
    rw [e]
    by_cases h1 : k < a
    · rw [List.getElem?_append_left (by rw [List.length_take, hl]; omega), List.getElem?_take, if_pos h1]
      have hu : up2 a k = k := by unfold up2; rw [if_pos h1]
      rw [hu]; simp [intCells, Cls.row_get (show k < n + 2 by omega)]
    · rw [List.getElem?_append_right (by rw [List.length_take, hl]; omega), List.getElem?_drop, List.length_take, hl]
      have hu : up2 a k = k + 2 := by unfold up2; rw [if_neg h1]
      rw [hu, show a + 2 + (k - min a (n + 2)) = k + 2 from by omega]
      simp [intCells, Cls.row_get (show k + 2 < n + 2 by omega)]
  · rw [List.getElem?_eq_none (by rw [List.length_append, List.length_take, List.length_drop, hl]; omega), List.getElem?_eq_none (by rw [intCells_len, Cls.row_len]; omega)]
/-- The darts below i are numbered anew. -/
def anew (F : Nat → Nat) (a i : Nat) : Nat → Nat := fun x => if x < i then F x else up2 a (F x)
theorem anew_step (F : Nat → Nat) (a i k : Nat) : upd (anew F a i) i (F i) k = anew F a (i + 1) k := by
  unfold upd anew
  by_cases e : k = i
  · subst e; rw [if_pos rfl, if_pos (by omega)]
  · rw [if_neg e]
    by_cases e2 : k < i
    · rw [if_pos e2, if_pos (by omega)]
    · rw [if_neg e2, if_neg (by omega)]
theorem anew_same {F : Nat → Nat} {a i : Nat} (h : F i < a) (k : Nat) : anew F a i k = anew F a (i + 1) k := by
  unfold anew
  by_cases e : k = i
  · subst e
    rw [if_neg (by omega), if_pos (by omega)]
    unfold up2; rw [if_pos h]
  · by_cases e2 : k < i
    · rw [if_pos e2, if_pos (by omega)]
    · rw [if_neg e2, if_neg (by omega)]
end Mp

end Go.Proofs.YtpebgompfgkljaaGreat
