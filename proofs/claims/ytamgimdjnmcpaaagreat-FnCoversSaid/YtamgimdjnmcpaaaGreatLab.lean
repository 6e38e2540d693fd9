/-
  The walks over labels: the program's newClasses, mergeClasses, countClasses; the model's l3Find.
-/
import Derived.Test.YtamgimdjnmcpaaaGreatBase
import Derived.Test.YtamgimdjnmcpaaaGreatSlice
import Derived.Test.YtamgimdjnmcpaaaGreatInts
import Derived.Test.YtamgimdjnmcpaaaGreatGrid
import Derived.Test.YtamgimdjnmcpaaaGreatClass
import Derived.Test.YtamgimdjnmcpaaaGreatOwn
import Derived.Deep.QuietTactic
import Derived.BigQuiet
namespace Go.Proofs.YtamgimdjnmcpaaaGreat
open Go.RowKit

def intsOf (ms : List Nat) : List Int := ms.map fun k => ((k : Nat) : Int)
theorem intsOf_len (ms : List Nat) : (intsOf ms).length = ms.length := by simp [intsOf]
theorem intsOf_get {ms : List Nat} {i m : Nat} (h : ms[i]? = some m) : (intsOf ms)[i]? = some ((m : Nat) : Int) := by simp [intsOf, h]
theorem intsOf_snoc (ms : List Nat) (m : Nat) : intsOf (ms ++ [m]) = intsOf ms ++ [((m : Nat) : Int)] := by simp [intsOf]
theorem intsOf_mem {ms : List Nat} {m : Nat} : ((m : Nat) : Int) ∈ intsOf ms ↔ m ∈ ms := by
  unfold intsOf
  rw [List.mem_map]
  constructor
  · rintro ⟨k, hk, e⟩; obtain rfl : k = m := by omega
    exact hk
  · intro h; exact ⟨m, h, rfl⟩

/-- The block g holds the numbers u 0, u 1, .. below n, and maybe more behind them. -/
def Lab (w : World) (g : Nat) (u : Nat → Nat) (n : Nat) : Prop := ∃ all, Blk w g 3 all ∧ ∀ k, k < n → all[k]? = some (.int .i64 ((u k : Nat) : Int))
section
variable {w w' : World} {g n : Nat} {u : Nat → Nat}
theorem Lab.lt (h : Lab w g u n) : g < w.heap.size := by obtain ⟨_, h, _⟩ := h; exact h.lt
theorem Lab.cell (h : Lab w g u n) {k : Nat} (hk : k < n) : w.cell? ⟨g, k, none⟩ = some (.int .i64 ((u k : Nat) : Int)) := by
  obtain ⟨all, h, hc⟩ := h
  rw [h.cell]; exact hc k hk
theorem Lab.frozen (h : Lab w g u n) (k : Nat) : w.frozen? ⟨g, k, none⟩ = false := by obtain ⟨_, h, _⟩ := h; exact h.frozen k
theorem Lab.row (h : Lab w g u n) : RowAt w (some ⟨g, 0, none⟩) (intCells (Cls.row u n)) := by
  refine Or.inr ⟨g, 0, rfl, h.lt, fun i v hv => ?_⟩
  have hi : i < n := by
    have := (List.getElem?_eq_some_iff.1 hv).1
    rwa [intCells_len, Cls.row_len] at this
  rw [Nat.zero_add, h.cell hi]
  simp [intCells, Cls.row_get hi] at hv
  rw [← hv]
theorem Lab.put (h : Lab w g u n) {i b : Nat} (hi : i < n) : Lab (w.setCell ⟨g, i, none⟩ (.int .i64 ((b : Nat) : Int))) g (fun k => if k = i then b else u k) n := by
  obtain ⟨all, h, hc⟩ := h
  refine ⟨_, h.put i _, fun k hk => ?_⟩
  rw [Array.getElem?_setIfInBounds]
  by_cases e : i = k
  · subst e
    have := (Array.getElem?_eq_some_iff.1 (hc i hi)).1
    simp [this]
  · have e' : ¬ k = i := fun h => e h.symm
    simp only [e, e', if_false]; exact hc k hk
theorem Lab.congr (h : Lab w g u n) {v : Nat → Nat} (he : ∀ k, k < n → u k = v k) : Lab w g v n := by
  obtain ⟨all, h, hc⟩ := h
  exact ⟨all, h, fun k hk => by rw [hc k hk, he k hk]⟩
theorem Lab.below {B : Nat} (h : Lab w g u n) (hb : Below B w w') (hg : g < B) : Lab w' g u n := by
  obtain ⟨all, h, hc⟩ := h
  exact ⟨all, h.below hb hg, hc⟩
theorem Lab.drewN (h : Lab w g u n) (m : Nat) : Lab (w.drewN m) g u n := h
theorem Lab.of_blk (h : Blk w g 3 (intCells (Cls.row u n)).toArray) : Lab w g u n := ⟨_, h, fun k hk => by simp [intCells, Cls.row_get hk]⟩
end

set_option maxRecDepth 100000 in
theorem mk_zeros (n : Nat) (h1 : n ≤ 1000) (w : World) : (Instr.makeSlice 30 (.int .i64 (n : Int)) (.int .i64 (n : Int))).run Tryz.prog w = .ok (.slice (some ⟨w.heap.size, 0, none⟩) n n) (w.alloc (.cells (intCells (Cls.row (fun _ => 0) n)).toArray 3)) := by
  obtain ⟨i0, hi, hz0, hz1, hz2⟩ := info_parts info_int
  have h := run_make_rowN (P := Tryz.prog) 30 3 i0 _ Tryz.underlying30 hi hz0 .i64 .i64 n n (Nat.le_refl _) (by rw [hz2]; omega) (by omega) w
  have e : madeCells (Value.int .i64 0).cells (n * i0.size) = (intCells (Cls.row (fun _ => 0) n)).toArray := by
    rw [hz1, Nat.mul_one]
    show madeCells #[Value.int .i64 0] n = _
    rw [made_one]
    congr 1
    apply List.ext_getElem?
    intro k
    by_cases hk : k < n
    · simp [intCells, Cls.row, hk]
    · rw [List.getElem?_eq_none (by simp; omega), List.getElem?_eq_none (by rw [intCells_len, Cls.row_len]; omega)]
  rw [e] at h
  exact h

set_option maxRecDepth 10000 in
set_option maxHeartbeats 1000000 in
theorem impl_newClasses (n : Nat) (w : World) (h1 : n ≤ 1000) :
    Calls Tryz.prog 49 #[.int .i64 (n : Int)] w fun e w' => e = .returned (.slice (some ⟨w.heap.size, 0, none⟩) n n) ∧ Lab w' w.heap.size id n ∧ Below w.heap.size w w' := by
  have hmk := mk_zeros n h1
  have hst := Lab.of_blk (Blk.new w 3 (intCells (Cls.row (fun _ => 0) n)).toArray)
  generalize hN : w.heap.size = N at *
  have HN := Lib.hid hN
  have Hst := Lib.hid hst
  clear hst
  go_enter Tryz.func49, Tryz.ntmps49
  go_wp2
  go_loopw [4, 9] (fun _ iv wr => ∃ i : Nat, i ≤ n ∧ iv = .int .i64 i ∧ Below N w wr ∧ Hid (Lab wr N (fun k => if k < i then k else 0) n)) (fun _ iv _ => n - (intOf iv).toNat)
  case atStart => exact ⟨0, by omega, rfl, by have h := (Below.refl w.heap.size w).alloc (Nat.le_refl _) (.cells (intCells (Cls.row (fun _ => 0) n)).toArray 3); rw [HN.out] at h; exact h, Lib.hid (by simpa using Hst.out)⟩
  case round =>
    obtain ⟨i, hi, rfl, hb, hk⟩ := hrel
    by_cases hlt : i < n
    · have hcell := hk.out.cell hlt
      have hfz := hk.out.frozen i
      have hput := hk.out.put (b := i) hlt
      have Hput := Lib.hid hput
      clear hput
      generalize (((if i < i then i else 0 : Nat)) : Int) = z at hcell
      go_wp2
      go_roundw
      case rel => exact ⟨i + 1, by omega, by go_num, hb.setCell (Nat.le_refl _) _, Lib.hid (Hput.out.congr (fun k hk => by
        by_cases e : k = i
        · subst e; rw [if_pos rfl, if_pos (by omega)]
        · rw [if_neg e]
          by_cases e2 : k < i
          · rw [if_pos e2, if_pos (by omega)]
          · rw [if_neg e2, if_neg (by omega)]))⟩
      case measure => simp [intOf]; omega
    · obtain rfl : i = n := by omega
      go_wp2
      go_ret
      exact ⟨rfl, hk.out.congr (fun k hk => by rw [if_pos hk]; rfl), hb⟩

/-- Labels that are merged below i. -/
def mixTo (c : Nat → Nat) (p : Nat × Nat) (i : Nat) : Nat → Nat := fun k => if k < i then Cls.merge c p k else c k
theorem mixTo_at (c : Nat → Nat) (p : Nat × Nat) (i : Nat) : mixTo c p i i = c i := by simp [mixTo]
theorem mixTo_put {c : Nat → Nat} {p : Nat × Nat} {i : Nat} (h : c i = c p.1) (k : Nat) : (if k = i then c p.2 else mixTo c p i k) = mixTo c p (i + 1) k := by
  unfold mixTo
  by_cases e : k = i
  · subst e; rw [if_pos rfl, if_pos (by omega), Cls.merge, if_pos h]
  · rw [if_neg e]
    by_cases e2 : k < i
    · rw [if_pos e2, if_pos (by omega)]
    · rw [if_neg e2, if_neg (by omega)]
theorem mixTo_keep {c : Nat → Nat} {p : Nat × Nat} {i : Nat} (h : c i ≠ c p.1) (k : Nat) : mixTo c p i k = mixTo c p (i + 1) k := by
  unfold mixTo
  by_cases e : k = i
  · subst e; rw [if_neg (by omega), if_pos (by omega), Cls.merge, if_neg h]
  · by_cases e2 : k < i
    · rw [if_pos e2, if_pos (by omega)]
    · rw [if_neg e2, if_neg (by omega)]

set_option maxRecDepth 10000 in
set_option maxHeartbeats 1000000 in
theorem impl_mergeClasses (g n cap : Nat) (c : Nat → Nat) (a b : Nat) (za zb : Int) (hza : za = ((a : Nat) : Int)) (hzb : zb = ((b : Nat) : Int)) (w : World) (hg : Lab w g c n) (ha : a < n) (hb : b < n) (hn : n ≤ 1000) :
    Calls Tryz.prog 50 #[.slice (some ⟨g, 0, none⟩) n cap, .int .i64 za, .int .i64 zb] w fun e w' => e = .returned (.tuple #[]) ∧ Lab w' g (Cls.merge c (a, b)) n ∧ w.grownBy w' (some g) := by
  subst hza; subst hzb
  have hca := hg.cell ha
  have hcb := hg.cell hb
  have Hg := Lib.hid hg
  have h0a : (0 : Int) ≤ (a : Int) := by omega
  have h1a : (a : Int) < (n : Int) := by omega
  have h0b : (0 : Int) ≤ (b : Int) := by omega
  have h1b : (b : Int) < (n : Int) := by omega
  clear hg
  go_enter Tryz.func50, Tryz.ntmps50
  go_wp2
  go_quiet (fail)
  have Hg2 := Lib.hid (Hg.out.drewN nq)
  generalize hW : w.drewN nq = W0 at *
  have hgw : Hid (w.grownBy W0 (some g)) := Lib.hid (by rw [← hW]; exact ⟨rfl, rfl, rfl, Nat.le_refl _, fun _ _ _ => rfl⟩)
  clear hW hca hcb
  generalize hfrom : c a = fr at *
  have Hfrom := Lib.hid hfrom
  clear hfrom
  go_wp2
  go_loopw [8, 9, 20] (fun _ _ iv wr => ∃ i : Nat, i ≤ n ∧ iv = .int .i64 i ∧ Hid (Lab wr g (mixTo c (a, b) i) n ∧ w.grownBy wr (some g))) (fun _ _ iv _ => n - (intOf iv).toNat)
  case atStart => exact ⟨0, by omega, rfl, Lib.hid ⟨Hg2.out.congr (fun k _ => by simp [mixTo]), hgw.out⟩⟩
  case round =>
    obtain ⟨i, hi, rfl, hk⟩ := hrel
    by_cases hlt : i < n
    · have hcell := hk.out.1.cell hlt
      rw [mixTo_at] at hcell
      have hfz := hk.out.1.frozen i
      by_cases he : c i = fr
      · have heq : (((c i : Nat) : Int) == ((fr : Nat) : Int)) = true := by rw [he]; simp
        have Hi := Lib.hid (fun k => mixTo_put (p := (a, b)) (show c i = c (a, b).1 by rw [he]; exact Hfrom.out.symm) k)
        clear he
        generalize c i = ci at *
        have hput := hk.out.1.put (b := c b) hlt
        have Hput := Lib.hid hput
        clear hput
        go_wp2
        go_roundw
        case rel => exact ⟨i + 1, by omega, by go_num, Lib.hid ⟨Hput.out.congr (fun k _ => Hi.out k), only_setCell hk.out.2 (Or.inl rfl) _⟩⟩
        case measure => simp [intOf]; omega
      · have heq : (((c i : Nat) : Int) == ((fr : Nat) : Int)) = false := by simp; omega
        have Hi := Lib.hid (fun k => mixTo_keep (p := (a, b)) (show c i ≠ c (a, b).1 by intro h; exact he (h.trans Hfrom.out)) k)
        clear he
        generalize c i = ci at *
        go_wp2
        go_roundw
        case rel => exact ⟨i + 1, by omega, by go_num, Lib.hid ⟨hk.out.1.congr (fun k _ => Hi.out k), hk.out.2⟩⟩
        case measure => simp [intOf]; omega
    · obtain rfl : i = n := by omega
      go_wp2
      exact bodyPost_end (v := .tuple #[]) (by first | kernel_rfl | simp [results, Tryz.f50]) rfl ⟨rfl, hk.out.1.congr (fun k hk => by unfold mixTo; rw [if_pos hk]), hk.out.2⟩

set_option maxRecDepth 10000 in
set_option maxHeartbeats 1000000 in
theorem spec_l3Find (a : Option Addr) (cap n : Nat) (u c d : Nat → Nat) (k : Nat) (z : Int) (hz : z = ((k : Nat) : Int)) (w : World) (ha : RowAt w a (intCells (Cls.row u n))) (hu : Cls.Up u c d n) (hk : k < n) (hn : n ≤ 1000) :
    Calls Tryz.prog 79 #[.slice a n cap, .int .i64 z] w fun e w' => e = .returned (.int .i64 ((c k : Nat) : Int)) ∧ w' = w := by
  subst hz
  have Hu := Lib.hid hu
  have Ha := Lib.hid ha
  generalize hv : c k = v
  have Hv := Lib.hid hv
  clear hu ha hv
  go_enter Tryz.func79, Tryz.ntmps79
  go_wp2
  go_loopw [1] (fun kv wr => ∃ j : Nat, j < n ∧ kv = .int .i64 j ∧ Hid (c j = v) ∧ wr = w) (fun kv _ => d (intOf kv).toNat)
  case atStart => exact ⟨k, hk, rfl, Hv, rfl⟩
  case round =>
    obtain ⟨j, hj, rfl, hc, rfl⟩ := hrel
    obtain ⟨b, o, rfl, hbw, hcell⟩ := intCells_get? Ha.out (Cls.row_get hj)
    have hlt := Hu.out.lt j hj
    have hsame := Hu.out.same j hj
    have hroot := Hu.out.root j hj
    have hfall := Hu.out.falls j hj
    generalize hm : u j = m at *
    have Hsame := Lib.hid hsame; have Hroot := Lib.hid hroot; have Hfall := Lib.hid hfall
    have h0j : (0 : Int) ≤ (j : Int) := by omega
    have h1j : (j : Int) < (n : Int) := by omega
    clear hsame hroot hfall hm
    by_cases he : m = j
    · subst he
      go_wp2
      go_ret
      refine ⟨?_, rfl⟩
      rw [← hc.out, Hroot.out.1 (by first | rfl | trivial)]; rfl
    · have hne : ((m : Int) != (j : Int)) = true := by simp; omega
      go_wp2
      go_roundw
      case rel => exact ⟨m, hlt, by first | rfl | trivial, Lib.hid (by rw [Hsame.out]; exact hc.out), trivial⟩
      case measure => simpa [intOf] using Hfall.out he

set_option maxRecDepth 10000 in
set_option maxHeartbeats 1000000 in
theorem lib_Index (a : Option Addr) (cap : Nat) (l : List Int) (x : Int) (w : World) (ha : RowAt w a (intCells l)) (hl : l.length ≤ 1000000) :
    Calls Tryz.prog 51 #[.slice a l.length cap, .int .i64 x] w fun e w' => (∃ z : Int, e = .returned (.int .i64 z) ∧ decide (0 ≤ z) = decide (x ∈ l)) ∧ w' = w := by
  have Ha := Lib.hid ha; clear ha
  go_enter Tryz.func51, Tryz.ntmps51
  go_wp2
  go_loopw [5, 8] (fun _ iv wr => ∃ i : Nat, i ≤ l.length ∧ iv = .int .i64 i ∧ Hid (∀ j, j < i → l[j]? ≠ some x) ∧ wr = w) (fun _ iv _ => l.length - (intOf iv).toNat)
  case atStart => exact ⟨0, by omega, rfl, Lib.hid (fun _ h => by omega), rfl⟩
  case round =>
    obtain ⟨i, hi, rfl, hno, rfl⟩ := hrel
    by_cases hlt : i < l.length
    · obtain ⟨y, hy⟩ := get_some hlt
      obtain ⟨b, o, rfl, hbw, hcell⟩ := intCells_get? Ha.out hy
      have Hy := Lib.hid hy; clear hy
      by_cases he : x = y
      · have heq : (x == y) = true := by simp [he]
        have Hd := Lib.hid (show decide ((0 : Int) ≤ (i : Int)) = decide (x ∈ l) by rw [decide_eq_true (show (0 : Int) ≤ (i : Int) by omega), decide_eq_true (he ▸ get_mem Hy.out)])
        clear he
        go_wp2
        go_ret
        exact ⟨⟨_, rfl, Hd.out⟩, rfl⟩
      · have heq : (x == y) = false := by simp [he]
        have Hne := Lib.hid he
        clear he
        go_wp2
        go_roundw
        case rel => exact ⟨i + 1, by omega, by go_num, Lib.hid (fun j hj => by
          rcases Nat.lt_or_ge j i with h | h
          · exact hno.out j h
          · obtain rfl : j = i := by omega
            rw [Hy.out]; intro e; exact Hne.out (Option.some.inj e).symm), trivial⟩
        case measure => simp [intOf]; omega
    · obtain rfl : i = l.length := by omega
      go_wp2
      go_ret
      refine ⟨⟨_, rfl, ?_⟩, rfl⟩
      rw [decide_eq_false (by omega), decide_eq_false]
      intro h
      obtain ⟨j, hj, e⟩ := List.mem_iff_getElem.1 h
      exact hno.out j hj (by rw [List.getElem?_eq_getElem hj, e])

set_option maxRecDepth 10000 in
set_option maxHeartbeats 1000000 in
theorem lib_Contains (a : Option Addr) (cap : Nat) (l : List Int) (x : Int) (w : World) (ha : RowAt w a (intCells l)) (hl : l.length ≤ 1000000) :
    Calls Tryz.prog 103 #[.slice a l.length cap, .int .i64 x] w fun e w' => e = .returned (.bool (decide (x ∈ l))) ∧ w' = w := by
  have hc := Lib.hid (lib_Index a cap l x w ha hl)
  generalize decide (x ∈ l) = v at *
  go_enter Tryz.func103, Tryz.ntmps103
  go_wp2_with fail
  refine hc.out.mono ?_
  rintro e w1 ⟨⟨z, rfl, hz⟩, rfl⟩
  have Hz := Lib.hid hz; clear hz
  go_wp2
  go_ret
  exact ⟨by rw [← Hz.out]; rfl, rfl⟩

end Go.Proofs.YtamgimdjnmcpaaaGreat
