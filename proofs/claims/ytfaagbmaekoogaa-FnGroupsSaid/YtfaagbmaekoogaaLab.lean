/-
  The walks over labels: the program's newClasses, mergeClasses, countClasses; the model's l3Find.
-/
import Derived.Test.YtfaagbmaekoogaaBase
import Derived.Test.YtfaagbmaekoogaaSlice
import Derived.Test.YtfaagbmaekoogaaInts
import Derived.Test.YtfaagbmaekoogaaGrid
import Derived.Test.YtfaagbmaekoogaaClass
import Derived.Test.YtfaagbmaekoogaaOwn
import Derived.Deep.QuietTactic
import Derived.BigQuiet
namespace Go.Proofs.Ytfaagbmaekoogaa
open Go.RowKit

def intsOf (ms : List Nat) : List Int := ms.map fun k => ((k : Nat) : Int)
theorem intsOf_len (ms : List Nat) : (intsOf ms).length = ms.length := by simp [intsOf]
theorem intsOf_get {ms : List Nat} {i m : Nat} (h : ms[i]? = some m) : (intsOf ms)[i]? = some ((m : Nat) : Int) := by simp [intsOf, h]
theorem intsOf_snoc (ms : List Nat) (m : Nat) : intsOf (ms ++ [m]) = intsOf ms ++ [((m : Nat) : Int)] := by simp [intsOf]
theorem intsOf_mem {ms : List Nat} {m : Nat} : ((m : Nat) : Int) ∈ intsOf ms ↔ m ∈ ms := by
  unfold intsOf
  rw [List.mem_map]
  constructor
  · rintro ⟨k, hk, e⟩; obtain rfl : k = m := by omega
    exact hk
  · intro h; exact ⟨m, h, rfl⟩

/-- The block g holds the numbers u 0, u 1, .. below n, and maybe more behind them. -/
def Lab (w : World) (g : Nat) (u : Nat → Nat) (n : Nat) : Prop := ∃ all, Blk w g 3 all ∧ ∀ k, k < n → all[k]? = some (.int .i64 ((u k : Nat) : Int))
section
variable {w w' : World} {g n : Nat} {u : Nat → Nat}
theorem Lab.lt (h : Lab w g u n) : g < w.heap.size := by obtain ⟨_, h, _⟩ := h; exact h.lt
theorem Lab.cell (h : Lab w g u n) {k : Nat} (hk : k < n) : w.cell? ⟨g, k, none⟩ = some (.int .i64 ((u k : Nat) : Int)) := by
  obtain ⟨all, h, hc⟩ := h
  rw [h.cell]; exact hc k hk
theorem Lab.frozen (h : Lab w g u n) (k : Nat) : w.frozen? ⟨g, k, none⟩ = false := by obtain ⟨_, h, _⟩ := h; exact h.frozen k
theorem Lab.row (h : Lab w g u n) : RowAt w (some ⟨g, 0, none⟩) (intCells (Cls.row u n)) := by
  refine Or.inr ⟨g, 0, rfl, h.lt, fun i v hv => ?_⟩
  have hi : i < n := by
    have := (List.getElem?_eq_some_iff.1 hv).1
    rwa [intCells_len, Cls.row_len] at this
  rw [Nat.zero_add, h.cell hi]
  simp [intCells, Cls.row_get hi] at hv
  rw [← hv]
theorem Lab.put (h : Lab w g u n) {i b : Nat} (hi : i < n) : Lab (w.setCell ⟨g, i, none⟩ (.int .i64 ((b : Nat) : Int))) g (fun k => if k = i then b else u k) n := by
  obtain ⟨all, h, hc⟩ := h
  refine ⟨_, h.put i _, fun k hk => ?_⟩
  rw [Array.getElem?_setIfInBounds]
  by_cases e : i = k
  · subst e
    have := (Array.getElem?_eq_some_iff.1 (hc i hi)).1
    simp [this]
  · have e' : ¬ k = i := fun h => e h.symm
    simp only [e, e', if_false]; exact hc k hk
theorem Lab.congr (h : Lab w g u n) {v : Nat → Nat} (he : ∀ k, k < n → u k = v k) : Lab w g v n := by
  obtain ⟨all, h, hc⟩ := h
  exact ⟨all, h, fun k hk => by rw [hc k hk, he k hk]⟩
theorem Lab.below {B : Nat} (h : Lab w g u n) (hb : Below B w w') (hg : g < B) : Lab w' g u n := by
  obtain ⟨all, h, hc⟩ := h
  exact ⟨all, h.below hb hg, hc⟩
theorem Lab.drewN (h : Lab w g u n) (m : Nat) : Lab (w.drewN m) g u n := h
theorem Lab.of_blk (h : Blk w g 3 (intCells (Cls.row u n)).toArray) : Lab w g u n := ⟨_, h, fun k hk => by simp [intCells, Cls.row_get hk]⟩
end



set_option maxRecDepth 10000 in
set_option maxHeartbeats 1000000 in
theorem spec_l3Find (a : Option Addr) (cap n : Nat) (u c d : Nat → Nat) (k : Nat) (z : Int) (hz : z = ((k : Nat) : Int)) (w : World) (ha : RowAt w a (intCells (Cls.row u n))) (hu : Cls.Up u c d n) (hk : k < n) (hn : n ≤ 1000) :
    Calls Try.prog 111 #[.slice a n cap, .int .i64 z] w fun e w' => e = .returned (.int .i64 ((c k : Nat) : Int)) ∧ w' = w := by
  subst hz
  have Hu := Lib.hid hu
  have Ha := Lib.hid ha
  generalize hv : c k = v
  have Hv := Lib.hid hv
  clear hu ha hv
  go_enter Try.func111, Try.ntmps111
  go_wp2
  go_loopw [1] (fun kv wr => ∃ j : Nat, j < n ∧ kv = .int .i64 j ∧ Hid (c j = v) ∧ wr = w) (fun kv _ => d (intOf kv).toNat)
  case atStart => exact ⟨k, hk, rfl, Hv, rfl⟩
  case round =>
    obtain ⟨j, hj, rfl, hc, rfl⟩ := hrel
    obtain ⟨b, o, rfl, hbw, hcell⟩ := intCells_get? Ha.out (Cls.row_get hj)
    have hlt := Hu.out.lt j hj
    have hsame := Hu.out.same j hj
    have hroot := Hu.out.root j hj
    have hfall := Hu.out.falls j hj
    generalize hm : u j = m at *
    have Hsame := Lib.hid hsame; have Hroot := Lib.hid hroot; have Hfall := Lib.hid hfall
    have h0j : (0 : Int) ≤ (j : Int) := by omega
    have h1j : (j : Int) < (n : Int) := by omega
    clear hsame hroot hfall hm
    by_cases he : m = j
    · subst he
      go_wp2
      go_ret
      refine ⟨?_, rfl⟩
      rw [← hc.out, Hroot.out.1 (by first | rfl | trivial)]; rfl
    · have hne : ((m : Int) != (j : Int)) = true := by simp; omega
      go_wp2
      go_roundw
      case rel => exact ⟨m, hlt, by first | rfl | trivial, Lib.hid (by rw [Hsame.out]; exact hc.out), trivial⟩
      case measure => simpa [intOf] using Hfall.out he

set_option maxRecDepth 10000 in
set_option maxHeartbeats 1000000 in
theorem lib_Index (a : Option Addr) (cap : Nat) (l : List Int) (x : Int) (w : World) (ha : RowAt w a (intCells l)) (hl : l.length ≤ 1000000) :
    Calls Try.prog 147 #[.slice a l.length cap, .int .i64 x] w fun e w' => (∃ z : Int, e = .returned (.int .i64 z) ∧ decide (0 ≤ z) = decide (x ∈ l)) ∧ w' = w := by
  have Ha := Lib.hid ha; clear ha
  go_enter Try.func147, Try.ntmps147
  go_wp2
  go_loopw [5, 8] (fun _ iv wr => ∃ i : Nat, i ≤ l.length ∧ iv = .int .i64 i ∧ Hid (∀ j, j < i → l[j]? ≠ some x) ∧ wr = w) (fun _ iv _ => l.length - (intOf iv).toNat)
  case atStart => exact ⟨0, by omega, rfl, Lib.hid (fun _ h => by omega), rfl⟩
  case round =>
    obtain ⟨i, hi, rfl, hno, rfl⟩ := hrel
    by_cases hlt : i < l.length
    · obtain ⟨y, hy⟩ := get_some hlt
      obtain ⟨b, o, rfl, hbw, hcell⟩ := intCells_get? Ha.out hy
      have Hy := Lib.hid hy; clear hy
      by_cases he : x = y
      · have heq : (x == y) = true := by simp [he]
        have Hd := Lib.hid (show decide ((0 : Int) ≤ (i : Int)) = decide (x ∈ l) by rw [decide_eq_true (show (0 : Int) ≤ (i : Int) by omega), decide_eq_true (he ▸ get_mem Hy.out)])
        clear he
        go_wp2
        go_ret
        exact ⟨⟨_, rfl, Hd.out⟩, rfl⟩
      · have heq : (x == y) = false := by simp [he]
        have Hne := Lib.hid he
        clear he
        go_wp2
        go_roundw
        case rel => exact ⟨i + 1, by omega, by go_num, Lib.hid (fun j hj => by
          rcases Nat.lt_or_ge j i with h | h
          · exact hno.out j h
          · obtain rfl : j = i := by omega
            rw [Hy.out]; intro e; exact Hne.out (Option.some.inj e).symm), trivial⟩
        case measure => simp [intOf]; omega
    · obtain rfl : i = l.length := by omega
      go_wp2
      go_ret
      refine ⟨⟨_, rfl, ?_⟩, rfl⟩
      rw [decide_eq_false (by omega), decide_eq_false]
      intro h
      obtain ⟨j, hj, e⟩ := List.mem_iff_getElem.1 h
      exact hno.out j hj (by rw [List.getElem?_eq_getElem hj, e])

set_option maxRecDepth 10000 in
set_option maxHeartbeats 1000000 in
theorem lib_Contains (a : Option Addr) (cap : Nat) (l : List Int) (x : Int) (w : World) (ha : RowAt w a (intCells l)) (hl : l.length ≤ 1000000) :
    Calls Try.prog 139 #[.slice a l.length cap, .int .i64 x] w fun e w' => e = .returned (.bool (decide (x ∈ l))) ∧ w' = w := by
  have hc := Lib.hid (lib_Index a cap l x w ha hl)
  generalize decide (x ∈ l) = v at *
  go_enter Try.func139, Try.ntmps139
  go_wp2_with fail
  refine hc.out.mono ?_
  rintro e w1 ⟨⟨z, rfl, hz⟩, rfl⟩
  have Hz := Lib.hid hz; clear hz
  go_wp2
  go_ret
  exact ⟨by rw [← Hz.out]; rfl, rfl⟩

end Go.Proofs.Ytfaagbmaekoogaa
