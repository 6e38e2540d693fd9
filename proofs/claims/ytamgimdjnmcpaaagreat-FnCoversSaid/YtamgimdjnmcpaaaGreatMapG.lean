/-
  The walks of AddEdge, the program's and the model's. The walk of the model's AddEdge. The walks of the library's Index and Delete over integers, of takeOut and of dropMates.
-/
import Derived.Test.YtamgimdjnmcpaaaGreatBase
import Derived.Test.YtamgimdjnmcpaaaGreatSlice
import Derived.Test.YtamgimdjnmcpaaaGreatInts
import Derived.Test.YtamgimdjnmcpaaaGreatGrid
import Derived.Test.YtamgimdjnmcpaaaGreatGridRows
import Derived.Test.YtamgimdjnmcpaaaGreatOwn
import Derived.Test.YtamgimdjnmcpaaaGreatAppend
import Derived.Test.YtamgimdjnmcpaaaGreatClass
import Derived.Test.YtamgimdjnmcpaaaGreatLab
import Derived.Test.YtamgimdjnmcpaaaGreatMap
import Derived.Test.YtamgimdjnmcpaaaGreatMapA
import Derived.Test.YtamgimdjnmcpaaaGreatMapB
import Derived.Test.YtamgimdjnmcpaaaGreatPut
import Derived.StillTailTactics
import Derived.Deep.QuietTactic
import Derived.BigQuiet
import Derived.Test.YtamgimdjnmcpaaaGreatWord
import Derived.Test.YtamgimdjnmcpaaaGreatIsWord
import Derived.Test.YtamgimdjnmcpaaaGreatMapTopo
import Derived.Deep.RegionLaw
import Derived.Lib.SliceRun
namespace Go.Proofs.YtamgimdjnmcpaaaGreat
open Go.RowKit

theorem row_two (f : Nat → Nat) (n : Nat) : Cls.row f n ++ [((f n : Nat) : Int), ((f (n + 1) : Nat) : Int)] = Cls.row f (n + 2) := by
  rw [← row_snoc f (n + 1), ← row_snoc f n, List.append_assoc]; rfl
theorem intCells_two (l : List Int) (x y : Int) : intCells l ++ [.int .i64 x, .int .i64 y] = intCells (l ++ [x, y]) := by simp [intCells]
namespace Mp
/-- The darts of a map, and two more behind them. -/
def plus (f : Nat → Nat) (n x y : Nat) : Nat → Nat := fun k => if k < n then f k else if k = n then x else y
theorem plus_row (f : Nat → Nat) (n x y : Nat) : Cls.row f n ++ [((x : Nat) : Int), ((y : Nat) : Int)] = Cls.row (plus f n x y) (n + 2) := by
  rw [← row_two, row_congr (f := f) (f' := plus f n x y) fun k hk => by simp [plus, hk]]
  have h1 : ¬ n + 1 < n := by omega
  simp [plus, h1]
theorem addF_plus {l : List Int} {a b : Nat} (ha : a < l.length) (hb : b < l.length) (x y : Nat) : ∀ k, k < l.length + 2 → behind (behind (plus (at_ l) l.length x y) l.length a) (l.length + 1) (if a = b then l.length else b) k = addF l a b k := by
  intro k hk
  unfold addF behind upd plus
  by_cases hab : a = b
  · subst hab
    simp only [if_true]
    by_cases h1 : k = l.length
    · simp [h1]
    · by_cases h2 : k = l.length + 1
      · subst h2; simp [ha]
      · have : k < l.length := by omega
        simp [h1, h2, this, ha]
  · simp only [hab, if_false]
    by_cases h1 : k = l.length
    · subst h1
      have : ¬ l.length = b := by omega
      simp [this, ha]
    · by_cases h2 : k = l.length + 1
      · subst h2
        have h3 : ¬ l.length + 1 = b := by omega
        have h4 : ¬ b = a := fun h => hab h.symm
        have h5 : ¬ b = l.length := by omega
        simp [h3, h4, h5, hb]
      · have : k < l.length := by omega
        simp [h1, h2, this, ha]
end Mp




theorem own_below {w w' : World} {lo B n : Nat} {e : TypeId} {v : Value} {xs : List Value} (h : w.ownsRow lo e 1 v n xs) (hb : Below B w w') (hB : w.heap.size ≤ B) : w'.ownsRow lo e 1 v n xs :=
  own_keep h hb fun k hk => Nat.lt_of_lt_of_le (h.lt k hk).2 hB
/-- Two darts are laid behind others. -/
theorem stores4 {w w0 : World} {lo g cap m n a b : Nat} {f : Nat → Nat} (h : w.ownsRow lo 3 1 (.slice (some ⟨g, 0, none⟩) m cap) m (intCells (Cls.row f m))) (hb0 : Below lo w0 w) (hn : n + 1 < m) (ha : a < m) (hb : b < m) :
    ∃ fa z1 z2 fb z3 z4 : Nat, w.cell? ⟨g, a, none⟩ = some (.int .i64 (fa : Int)) ∧ w.cell? ⟨g, n, none⟩ = some (.int .i64 (z1 : Int)) ∧ w.frozen? ⟨g, n, none⟩ = false ∧
      (w.setCell ⟨g, n, none⟩ (.int .i64 (fa : Int))).cell? ⟨g, a, none⟩ = some (.int .i64 (z2 : Int)) ∧ (w.setCell ⟨g, n, none⟩ (.int .i64 (fa : Int))).frozen? ⟨g, a, none⟩ = false ∧
      ((w.setCell ⟨g, n, none⟩ (.int .i64 (fa : Int))).setCell ⟨g, a, none⟩ (.int .i64 (n : Int))).cell? ⟨g, b, none⟩ = some (.int .i64 (fb : Int)) ∧
      ((w.setCell ⟨g, n, none⟩ (.int .i64 (fa : Int))).setCell ⟨g, a, none⟩ (.int .i64 (n : Int))).cell? ⟨g, n + 1, none⟩ = some (.int .i64 (z3 : Int)) ∧
      ((w.setCell ⟨g, n, none⟩ (.int .i64 (fa : Int))).setCell ⟨g, a, none⟩ (.int .i64 (n : Int))).frozen? ⟨g, n + 1, none⟩ = false ∧
      (((w.setCell ⟨g, n, none⟩ (.int .i64 (fa : Int))).setCell ⟨g, a, none⟩ (.int .i64 (n : Int))).setCell ⟨g, n + 1, none⟩ (.int .i64 (fb : Int))).cell? ⟨g, b, none⟩ = some (.int .i64 (z4 : Int)) ∧
      (((w.setCell ⟨g, n, none⟩ (.int .i64 (fa : Int))).setCell ⟨g, a, none⟩ (.int .i64 (n : Int))).setCell ⟨g, n + 1, none⟩ (.int .i64 (fb : Int))).frozen? ⟨g, b, none⟩ = false ∧
      ((((w.setCell ⟨g, n, none⟩ (.int .i64 (fa : Int))).setCell ⟨g, a, none⟩ (.int .i64 (n : Int))).setCell ⟨g, n + 1, none⟩ (.int .i64 (fb : Int))).setCell ⟨g, b, none⟩ (.int .i64 ((n : Int) + 1))).ownsRow lo 3 1 (.slice (some ⟨g, 0, none⟩) m cap) m (intCells (Cls.row (Mp.behind (Mp.behind f n a) (n + 1) b) m)) ∧
      Below lo w0 ((((w.setCell ⟨g, n, none⟩ (.int .i64 (fa : Int))).setCell ⟨g, a, none⟩ (.int .i64 (n : Int))).setCell ⟨g, n + 1, none⟩ (.int .i64 (fb : Int))).setCell ⟨g, b, none⟩ (.int .i64 ((n : Int) + 1))) := by
  have hg := (h.lt g rfl).1
  have h1 := ownRow_put h (f a) (show n < m by omega)
  have h2 := ownRow_put h1 n ha
  have h3 := ownRow_put h2 (Mp.behind f n a b) hn
  have h4 := ownRow_put h3 (n + 1) hb
  refine ⟨f a, f n, _, Mp.behind f n a b, _, _, ownRow_cell h ha, ownRow_cell h (by omega), h.frozenAt n, ownRow_cell h1 ha, h1.frozenAt a, ownRow_cell h2 hb, ownRow_cell h2 hn, h2.frozenAt _, ownRow_cell h3 hb, h3.frozenAt b, h4, ?_⟩
  exact (((hb0.setCell hg _).setCell hg _).setCell hg _).setCell hg _

end Go.Proofs.YtamgimdjnmcpaaaGreat
namespace Go.Proofs.YtamgimdjnmcpaaaGreat
open Go.RowKit

/-- The first append: the map's darts in a row of the call's own. -/
theorem copied {w0 w1 : World} {v1 : Value} {l : List Int} (h0 : l = Cls.row (Mp.at_ l) l.length) (ho : w1.ownsRow w0.heap.size 3 1 v1 (0 + l.length) (intCells [] ++ intCells l)) (hg : (w0.alloc (.cells #[] 3)).grownBy w1 (Value.slice (some ⟨w0.heap.size, 0, none⟩) 0 0).ownBlock) :
    w1.ownsRow w0.heap.size 3 1 v1 l.length (intCells (Cls.row (Mp.at_ l) l.length)) ∧ Below w0.heap.size w0 w1 ∧ w0.heap.size ≤ w1.heap.size := by
  rw [Nat.zero_add] at ho
  have hb1 : Below w0.heap.size w0 w1 := ((Below.refl _ _).alloc (Nat.le_refl _) _).grown hg (by simp) (fun k hk => by rw [own_block hk]; exact Nat.le_refl _)
  rw [← h0]
  exact ⟨ho, hb1, hb1.size⟩
/-- The second: two darts more. -/
theorem copied2 {w0 w1 w2 : World} {v1 v2 : Value} {n x y : Nat} {f : Nat → Nat} {u1 u2 : Value} (hu1 : u1 = .int .i64 (x : Int)) (hu2 : u2 = .int .i64 (y : Int)) (h1 : w1.ownsRow w0.heap.size 3 1 v1 n (intCells (Cls.row f n))) (hb : Below w0.heap.size w0 w1)
    (ho : w2.ownsRow w0.heap.size 3 1 v2 (n + 2) (intCells (Cls.row f n) ++ [u1, u2])) (hg : (w1.alloc (.cells #[u1, u2] 3)).grownBy w2 v1.ownBlock) :
    ∃ g cap, v2 = .slice (some ⟨g, 0, none⟩) (n + 2) cap ∧ w2.ownsRow w0.heap.size 3 1 (.slice (some ⟨g, 0, none⟩) (n + 2) cap) (n + 2) (intCells (Cls.row (Mp.plus f n x y) (n + 2))) ∧ Below w0.heap.size w0 w2 := by
  subst hu1; subst hu2
  obtain ⟨g, cap, rfl, _, _⟩ := own_form ho (by omega)
  refine ⟨g, cap, rfl, ?_, (hb.alloc hb.size _).grown hg (by simp; have := hb.size; omega) (fun k hk => (h1.lt k hk).1)⟩
  rw [intCells_two, Mp.plus_row] at ho
  exact ho

end Go.Proofs.YtamgimdjnmcpaaaGreat
namespace Go.Proofs.YtamgimdjnmcpaaaGreat
open Go.RowKit

set_option maxRecDepth 10000 in
set_option maxHeartbeats 1000000 in
/-- Where a number stands that occurs once. -/
theorem lib_IndexAt (a : Option Addr) (cap n q : Nat) (f : Nat → Nat) (x : Nat) (zx : Int) (hzx : zx = ((x : Nat) : Int)) (w : World) (ha : RowAt w a (intCells (Cls.row f n))) (hq : q < n) (hfq : f q = x) (hone : ∀ j, j < n → f j = x → j = q) (hn : n ≤ 1000) :
    Calls Tryz.prog 51 #[.slice a n cap, .int .i64 zx] w fun e w' => e = .returned (.int .i64 (q : Int)) ∧ w' = w := by
  have hcells : ∀ j, j < n → ∃ b o, a = some ⟨b, o, none⟩ ∧ w.cell? ⟨b, o + j, none⟩ = some (.int .i64 ((f j : Nat) : Int)) := fun j hj => by
    obtain ⟨b, o, e, _, hc⟩ := intCells_get? ha (Cls.row_get hj)
    exact ⟨b, o, e, hc⟩
  have Hcells := Lib.hid hcells; have Hone := Lib.hid hone; have Hfq := Lib.hid hfq
  clear ha hcells hone hfq
  go_enter Tryz.func51, Tryz.ntmps51
  go_wp2
  go_loopw [5, 8] (fun _ iv wr => ∃ i : Nat, i ≤ q ∧ iv = .int .i64 i ∧ wr = w) (fun _ iv _ => n - (intOf iv).toNat)
  case atStart => exact ⟨0, by omega, rfl, rfl⟩
  case round =>
    obtain ⟨i, hi, rfl, rfl⟩ := hrel
    have hlt : i < n := by omega
    obtain ⟨b, o, rfl, hcell⟩ := Hcells.out i hlt
    have hlti : (i : Int) < (n : Int) := by omega
    by_cases he : f i = x
    · have Hiq := Lib.hid (Hone.out i hlt he)
      have heq : (zx == ((f i : Nat) : Int)) = true := by rw [he, hzx]; simp
      have Hzx := Lib.hid hzx
      clear he hzx
      generalize ((f i : Nat) : Int) = y at *
      go_wp2
      go_ret
      exact ⟨by rw [Hiq.out]; rfl, rfl⟩
    · have hne : i ≠ q := fun e => he (by rw [e]; exact Hfq.out)
      have heq : (zx == ((f i : Nat) : Int)) = false := beq_eq_false_iff_ne.2 (by omega)
      have Hzx := Lib.hid hzx
      clear he hzx
      generalize ((f i : Nat) : Int) = y at *
      go_wp2
      go_roundw
      case rel => exact ⟨i + 1, by omega, by go_num, trivial⟩
      case measure => simp [intOf]; omega


theorem Mp.out_swp {f : Nat → Nat} {d q : Nat} (h : f q = d) (k : Nat) : Mp.upd (Mp.upd f q (f d)) d d k = Mp.swp f d q k := by
  unfold Mp.upd Mp.swp
  by_cases h1 : k = d
  · rw [if_pos h1, if_pos h1, h]
  · rw [if_neg h1, if_neg h1]

namespace Mp
theorem row_but (f : Nat → Nat) {n a : Nat} (ha : a ≤ n) : (intCells (Cls.row f (n + 2))).take a ++ (intCells (Cls.row f (n + 2))).drop (a + 2) = intCells (Cls.row (fun x => f (up2 a x)) n) := by
  apply List.ext_getElem?
  intro k
  have hl : (intCells (Cls.row f (n + 2))).length = n + 2 := by rw [intCells_len, Cls.row_len]
  by_cases hk : k < n
  · have e : (intCells (Cls.row (fun x => f (up2 a x)) n))[k]? = some (.int .i64 ((f (up2 a k) : Nat) : Int)) := by simp [intCells, Cls.row_get hk]
    rw [e]
    by_cases h1 : k < a
    · rw [List.getElem?_append_left (by rw [List.length_take, hl]; omega), List.getElem?_take, if_pos h1]
      have hu : up2 a k = k := by unfold up2; rw [if_pos h1]
      rw [hu]; simp [intCells, Cls.row_get (show k < n + 2 by omega)]
    · rw [List.getElem?_append_right (by rw [List.length_take, hl]; omega), List.getElem?_drop, List.length_take, hl]
      have hu : up2 a k = k + 2 := by unfold up2; rw [if_neg h1]
      rw [hu, show a + 2 + (k - min a (n + 2)) = k + 2 from by omega]
      simp [intCells, Cls.row_get (show k + 2 < n + 2 by omega)]
  · rw [List.getElem?_eq_none (by rw [List.length_append, List.length_take, List.length_drop, hl]; omega), List.getElem?_eq_none (by rw [intCells_len, Cls.row_len]; omega)]
/-- The darts below i are numbered anew. -/
def anew (F : Nat → Nat) (a i : Nat) : Nat → Nat := fun x => if x < i then F x else up2 a (F x)
theorem anew_step (F : Nat → Nat) (a i k : Nat) : upd (anew F a i) i (F i) k = anew F a (i + 1) k := by
  unfold upd anew
  by_cases e : k = i
  · subst e; rw [if_pos rfl, if_pos (by omega)]
  · rw [if_neg e]
    by_cases e2 : k < i
    · rw [if_pos e2, if_pos (by omega)]
    · rw [if_neg e2, if_neg (by omega)]
theorem anew_same {F : Nat → Nat} {a i : Nat} (h : F i < a) (k : Nat) : anew F a i k = anew F a (i + 1) k := by
  unfold anew
  by_cases e : k = i
  · subst e
    rw [if_neg (by omega), if_pos (by omega)]
    unfold up2; rw [if_pos h]
  · by_cases e2 : k < i
    · rw [if_pos e2, if_pos (by omega)]
    · rw [if_neg e2, if_neg (by omega)]
end Mp

end Go.Proofs.YtamgimdjnmcpaaaGreat
