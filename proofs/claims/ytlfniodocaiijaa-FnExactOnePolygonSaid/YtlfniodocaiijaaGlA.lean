/-
  Where a letter stands: the walks of sideWith, polygonsWith, l5At, l5Count.
-/
import Derived.Test.YtlfniodocaiijaaBase
import Derived.Test.YtlfniodocaiijaaSlice
import Derived.Test.YtlfniodocaiijaaIntRow
import Derived.Test.YtlfniodocaiijaaInts
import Derived.Test.YtlfniodocaiijaaOwn
import Derived.Test.YtlfniodocaiijaaGrid
import Derived.Test.YtlfniodocaiijaaGridWalk
import Derived.Test.YtlfniodocaiijaaGridRows
import Derived.Test.YtlfniodocaiijaaWord
import Derived.Test.YtlfniodocaiijaaGlue
import Derived.Test.YtlfniodocaiijaaIsWord
import Derived.Test.YtlfniodocaiijaaUses
import Derived.Test.YtlfniodocaiijaaIsGluing
import Derived.Test.YtlfniodocaiijaaClass
import Derived.Test.YtlfniodocaiijaaLab
import Derived.Test.YtlfniodocaiijaaEnds
import Derived.Test.YtlfniodocaiijaaMove
import Derived.Test.YtlfniodocaiijaaMoveA
import Derived.Deep.QuietTactic
import Derived.BigQuiet
namespace Go.Proofs.Ytlfniodocaiijaa
open Go.RowKit

namespace Mv
/-- No side before i has the letter. -/
def Before (l : List Int) (x : Int) (i : Nat) : Prop := ∀ j y, j < i → l[j]? = some y → (y.natAbs : Int) ≠ x
theorem Before.zero (l : List Int) (x : Int) : Before l x 0 := fun _ _ h => by omega
theorem Before.step {l : List Int} {x : Int} {i : Nat} {y : Int} (h : Before l x i) (hy : l[i]? = some y) (hn : (y.natAbs : Int) ≠ x) : Before l x (i + 1) := fun j z hj hz => by
  rcases Nat.lt_or_ge j i with h1 | h1
  · exact h j z h1 hz
  · obtain rfl : j = i := by omega
    rw [hy] at hz; cases hz; exact hn
theorem Before.at {l : List Int} {x : Int} {i : Nat} {y : Int} (h : Before l x i) (hy : l[i]? = some y) (he : (y.natAbs : Int) = x) : at_ l x = i ∧ In l x := by
  obtain ⟨hi, rfl⟩ := List.getElem?_eq_some_iff.1 hy
  refine ⟨?_, ⟨_, List.getElem_mem hi, he⟩⟩
  unfold at_
  rw [List.findIdx_eq hi]
  exact ⟨by simpa using he, fun j hj => by have := h j _ hj (List.getElem?_eq_getElem (by omega)); simpa using this⟩
theorem Before.none {l : List Int} {x : Int} (h : Before l x l.length) : ¬ In l x := by
  rintro ⟨y, hy, he⟩
  obtain ⟨j, hj, rfl⟩ := List.mem_iff_getElem.1 hy
  exact h j _ hj (List.getElem?_eq_getElem hj) he
def idxOf (l : List Int) (x : Int) : Int := if In l x then ((at_ l x : Nat) : Int) else -1
theorem idxOf_in {l : List Int} {x : Int} (h : In l x) : idxOf l x = ((at_ l x : Nat) : Int) := if_pos h
theorem idxOf_out {l : List Int} {x : Int} (h : ¬ In l x) : idxOf l x = -1 := if_neg h
theorem at_get {l : List Int} {x : Int} (h : In l x) : ∃ y, l[at_ l x]? = some y ∧ (y.natAbs : Int) = x := by
  have hl := at_lt.2 h
  refine ⟨_, List.getElem?_eq_getElem hl, ?_⟩
  have := List.findIdx_getElem (xs := l) (p := fun (y : Int) => ((y.natAbs : Int)) == x) (w := hl)
  exact beq_iff_eq.1 this
theorem foundTo_zero (L : List (List Int)) (x : Int) : foundTo L x 0 = [] := rfl
theorem foundTo_in {L : List (List Int)} {x : Int} {m : Nat} {r : List Int} (hr : L[m]? = some r) (h : In r x) : foundTo L x (m + 1) = foundTo L x m ++ [m] := by
  unfold foundTo
  rw [List.range_succ, List.filter_append, List.filter_cons, List.getD_eq_getElem?_getD, hr, if_pos (by simpa using h)]
  rfl
theorem foundTo_out {L : List (List Int)} {x : Int} {m : Nat} {r : List Int} (hr : L[m]? = some r) (h : ¬ In r x) : foundTo L x (m + 1) = foundTo L x m := by
  unfold foundTo
  rw [List.range_succ, List.filter_append, List.filter_cons, List.getD_eq_getElem?_getD, hr, if_neg (by simpa using h)]
  simp
theorem foundTo_len (L : List (List Int)) (x : Int) (m : Nat) : (foundTo L x m).length ≤ m := by
  unfold foundTo
  have := List.length_filter_le (fun k => decide (In (L.getD k []) x)) (List.range m)
  rwa [List.length_range] at this
theorem cnt_take {l : List Int} {k : Nat} {y : Int} (h : l[k]? = some y) (X : Nat) : cnt (l.take (k + 1)) X = cnt (l.take k) X + if y.natAbs = X then 1 else 0 := by
  obtain ⟨hk, rfl⟩ := List.getElem?_eq_some_iff.1 h
  rw [List.take_succ_eq_append_getElem hk, cnt_append, cnt_cons, cnt_nil]; omega
end Mv

set_option maxRecDepth 10000 in
set_option maxHeartbeats 1000000 in
theorem impl_side1 (s x : Int) (B : Nat) (W : World) (hs : Word.Letter s) (c0 : W.cell? ⟨B, 0, none⟩ = some (.int .i64 x)) :
    Calls Try.prog 111 #[.int .i64 s, .pointer (some ⟨B, 0, none⟩)] W fun e W' => e = .returned (.bool ((s.natAbs : Int) == x)) ∧ Below W.heap.size W W' := by
  rw [Word.letter_iff] at hs
  have Habs := Lib.hid (fun W => impl_edgeOf s W (by omega) (by omega))
  generalize hv : ((s.natAbs : Int) == x) = v
  have Hv := Lib.hid hv
  go_enter Try.func111, Try.ntmps111
  go_wp2
  go_quiet (exact Calls.quiet_of_same (Habs.out _))
  all_goals go_wp2
  all_goals (go_ret; exact ⟨by first | rfl | rw [← Hv.out], below_drewN (Below.refl _ _) _⟩)
set_option maxRecDepth 10000 in
set_option maxHeartbeats 1000000 in
theorem lib_IndexFunc (a : Option Addr) (cap B : Nat) (l : List Int) (x : Int) (w : World) (ha : RowAt w a (intCells l)) (hl : l.length ≤ 1000) (hL : ∀ s ∈ l, Word.Letter s) (hB : B < w.heap.size) (c0 : w.cell? ⟨B, 0, none⟩ = some (.int .i64 x)) :
    Calls Try.prog 110 #[.slice a l.length cap, .func (.func 111) #[] #[.pointer (some ⟨B, 0, none⟩)]] w fun e w' => e = .returned (.int .i64 (Mv.idxOf l x)) ∧ Below w.heap.size w w' := by
  have Ha := Lib.hid ha; have HL := Lib.hid hL; have Hc0 := Lib.hid c0
  clear ha hL c0
  go_enter Try.func110, Try.ntmps110
  go_wp2
  go_loopw [5, 8] (fun _ iv wr => ∃ i : Nat, i ≤ l.length ∧ iv = .int .i64 i ∧ Hid (Mv.Before l x i) ∧ Hid (Below w.heap.size w wr)) (fun _ iv _ => l.length - (intOf iv).toNat)
  case atStart => exact ⟨0, by omega, rfl, Lib.hid (Mv.Before.zero _ _), Lib.hid (Below.refl _ _)⟩
  case round =>
    obtain ⟨i, hi, rfl, hno, hb⟩ := hrel
    by_cases hlt : i < l.length
    · obtain ⟨y, hy⟩ := get_some hlt
      obtain ⟨b, o, rfl, hbw, hcell⟩ := intCells_get? (Ha.out.below hb.out) hy
      have hcl := impl_side1 y x B wr (HL.out y (get_mem hy)) (by rw [hb.out.cell hB]; exact Hc0.out)
      have Hy := Lib.hid hy; clear hy
      by_cases he : (y.natAbs : Int) = x
      · rw [show ((y.natAbs : Int) == x) = true from beq_iff_eq.2 he] at hcl
        obtain ⟨h1, h2⟩ := hno.out.at Hy.out he
        have Hres := Lib.hid (show Mv.idxOf l x = (i : Int) by rw [Mv.idxOf_in h2, h1])
        have Hcl := Lib.hid hcl
        clear he hcl h1 h2
        go_wp2_with fail
        refine Hcl.out.mono ?_
        rintro e w3 ⟨rfl, hb3⟩
        go_wp2
        go_ret
        exact ⟨by rw [Hres.out]; rfl, hb.out.trans (hb3.mono hb.out.size)⟩
      · rw [show ((y.natAbs : Int) == x) = false from beq_eq_false_iff_ne.2 he] at hcl
        have Hno := Lib.hid (hno.out.step Hy.out he)
        have Hcl := Lib.hid hcl
        clear he hcl
        go_wp2_with fail
        refine Hcl.out.mono ?_
        rintro e w3 ⟨rfl, hb3⟩
        have Hb3 := Lib.hid (hb.out.trans (hb3.mono hb.out.size)); clear hb3
        go_wp2
        go_roundw
        case rel => exact ⟨i + 1, by omega, by go_num, Hno, Hb3⟩
        case measure => simp [intOf]; omega
    · obtain rfl : i = l.length := by omega
      have Hres := Lib.hid (Mv.idxOf_out hno.out.none)
      go_wp2
      go_ret
      exact ⟨by rw [Hres.out]; rfl, hb.out⟩
set_option maxRecDepth 10000 in
set_option maxHeartbeats 1000000 in
theorem impl_sideWith (a : Option Addr) (cap : Nat) (l : List Int) (x : Int) (w : World) (ha : RowAt w a (intCells l)) (hl : l.length ≤ 1000) (hL : ∀ s ∈ l, Word.Letter s) :
    Calls Try.prog 103 #[.slice a l.length cap, .int .i64 x] w fun e w' => e = .returned (.int .i64 (Mv.idxOf l x)) ∧ Below w.heap.size w w' := by
  have hbA : Below w.heap.size w (w.alloc (.cells #[.int .i64 x] 3)) := (Below.refl _ _).alloc (Nat.le_refl _) _
  have hK : Blk (w.alloc (.cells #[.int .i64 x] 3)) w.heap.size 3 #[.int .i64 x] := Blk.new w _ _
  have Hc := Lib.hid (lib_IndexFunc a cap w.heap.size l x (w.alloc (.cells #[.int .i64 x] 3)) (ha.below hbA) hl hL hK.lt (by rw [hK.cell 0]; rfl))
  generalize Mv.idxOf l x = z at *
  clear hK ha hL
  go_enter Try.func103, Try.ntmps103
  go_wp2_with fail
  refine Hc.out.mono ?_
  rintro e w3 ⟨rfl, hb3⟩
  go_wp2
  go_ret
  exact ⟨rfl, hbA.trans (hb3.mono hbA.size)⟩
set_option maxRecDepth 10000 in
set_option maxHeartbeats 1000000 in
theorem impl_polygonsWith (a : Option Addr) (c : Nat) (L : List (List Int)) (x : Int) (w : World) (ha : GridAt w a L) (hln : L.length ≤ 1000) (hw : ∀ p ∈ L, Word.IsW p) :
    Calls Try.prog 60 #[.slice a L.length c, .int .i64 x] w fun e w' => Gives w (intsOf (Mv.found L x)) e w' := by
  obtain ⟨i0, hi0, hz0, hz1, hz2⟩ := info_int_parts
  have Hi0 := Lib.hid hi0; have Hz0 := Lib.hid hz0; have Hz1 := Lib.hid hz1; have Hz2 := Lib.hid hz2
  have Ha := Lib.hid ha; have Hw := Lib.hid hw
  clear hi0 hz0 hz1 hz2 ha hw
  go_enter Try.func60, Try.ntmps60
  go_wp2
  go_loopw [5, 6, 7, 10] (fun ov _ _ iv wr => ∃ i : Nat, i ≤ L.length ∧ iv = .int .i64 i ∧ Hid (Below w.heap.size w wr) ∧ wr.ownsRow w.heap.size 3 1 ov (Mv.foundTo L x i).length (intCells (intsOf (Mv.foundTo L x i)))) (fun _ _ _ iv _ => L.length - (intOf iv).toNat)
  case atStart => exact ⟨0, by omega, rfl, Lib.hid (Below.refl _ _), by rw [Mv.foundTo_zero]; exact World.ownsRow_nil _ _ _ _⟩
  case round =>
    obtain ⟨i, hi, rfl, hb, hown⟩ := hrel
    by_cases hlt : i < L.length
    · obtain ⟨r, hr⟩ := get_some hlt
      have hwr := Hw.out r (get_mem hr)
      obtain ⟨b, o, ai, ci, rfl, hbw, hcell0, hrow0⟩ := Ha.out.get hr
      have hcell : wr.cell? ⟨b, o + i, none⟩ = some (.slice ai r.length ci) := by rw [hb.out.cell hbw]; exact hcell0
      have hS := impl_sideWith ai ci r x wr (hrow0.below hb.out) (by have := hwr.2; omega) hwr.1
      have hfl := Mv.foundTo_len L x i
      have Hr := Lib.hid hr
      clear hr hwr hcell0 hrow0 hbw
      by_cases hIn : Mv.In r x
      · rw [Mv.idxOf_in hIn] at hS
        have Hst := Lib.hid (Mv.foundTo_in Hr.out hIn)
        have HS := Lib.hid hS
        generalize Mv.at_ r x = k at *
        have Hown := Lib.hid hown
        generalize hF : Mv.foundTo L x i = F at *
        have HF := Lib.hid hF
        have hc1 : F.length + 1 ≤ maxLen := by unfold maxLen; omega
        have hc2 : (F.length + 1) * 8 ≤ 140737488355328 := by omega
        obtain ⟨av, cv, rfl⟩ := own_len hown
        have dk : decide ((0 : Int) ≤ (k : Int)) = true := decide_eq_true (by omega)
        clear hS hown hF hIn
        go_wp2_with fail
        refine HS.out.mono ?_
        rintro e w3 ⟨rfl, hb3⟩
        have hown3 := own_keep Hown.out hb3 (fun k hk => (Hown.out.lt k hk).2)
        have hb3' := hb.out.trans (hb3.mono hb.out.size)
        have hbase := hb3'.size
        have Hb3 := Lib.hid hb3'
        clear hb3 hb3' hcell
        go_wp2_with (at_builtin; refine append_one rfl (.tmp 19) (.tmp 21) 42 rfl w.heap.size 3 i0 _ 8 Try.underlying42 Hi0.out Hz0.out Hz1.out Hz2.out (by rfl) _ _ _ rfl hown3 (by rfl) _ rfl hc1 hc2 hbase ?_; intro v1 w4 hown1 hg1 _)
        go_roundw
        case rel =>
          refine ⟨i + 1, by omega, by go_num, Lib.hid (Below.grown (Hb3.out.alloc hbase _) hg1 (by simp; omega) (fun k hk => (hown3.lt k hk).1)), ?_⟩
          rw [Hst.out, List.length_append, intsOf_snoc, ← intCells_snoc]; exact hown1
        case measure => simp [intOf]; omega
      · rw [Mv.idxOf_out hIn] at hS
        have Hst := Lib.hid (Mv.foundTo_out Hr.out hIn)
        have HS := Lib.hid hS
        have Hown := Lib.hid hown
        obtain ⟨av, cv, rfl⟩ := own_len hown
        clear hS hown hIn
        go_wp2_with fail
        refine HS.out.mono ?_
        rintro e w3 ⟨rfl, hb3⟩
        have hown3 := own_keep Hown.out hb3 (fun k hk => (Hown.out.lt k hk).2)
        have Hb3 := Lib.hid (hb.out.trans (hb3.mono hb.out.size))
        have Hown3 := Lib.hid hown3
        clear hb3 hcell hown3
        go_wp2
        go_roundw
        case rel => exact ⟨i + 1, by omega, by go_num, Hb3, by rw [Hst.out]; exact Hown3.out⟩
        case measure => simp [intOf]; omega
    · obtain rfl : i = L.length := by omega
      have Hown := Lib.hid hown
      obtain ⟨av, cv, rfl⟩ := own_len hown
      clear hown
      go_wp2
      go_ret
      exact own_gives Hown.out (intsOf_len _) hb.out
set_option maxRecDepth 10000 in
set_option maxHeartbeats 1000000 in
theorem spec_l5At (a : Option Addr) (cap : Nat) (l : List Int) (x : Int) (w : World) (ha : RowAt w a (intCells l)) (hl : l.length ≤ 1000) (hL : ∀ s ∈ l, Word.Letter s) :
    Calls Try.prog 64 #[.slice a l.length cap, .int .i64 x] w fun e w' => e = .returned (.int .i64 (Mv.idxOf l x)) ∧ w' = w := by
  have Ha := Lib.hid ha; have HL := Lib.hid hL
  clear ha hL
  go_enter Try.func64, Try.ntmps64
  go_wp2
  go_loopw [5] (fun iv wr => wr = w ∧ ∃ i : Nat, i ≤ l.length ∧ iv = .int .i64 i ∧ Hid (Mv.Before l x i)) (fun iv _ => l.length - (intOf iv).toNat)
  case atStart => exact ⟨rfl, 0, by omega, rfl, Lib.hid (Mv.Before.zero _ _)⟩
  case round =>
    obtain ⟨hwr, i, hi, rfl, hno⟩ := hrel
    by_cases hlt : i < l.length
    · obtain ⟨y, hy⟩ := get_some hlt
      obtain ⟨b, o, rfl, hbw, hcell⟩ := intCells_get? (w := wr) (by rw [hwr]; exact Ha.out) hy
      have hly := HL.out y (get_mem hy)
      rw [Word.letter_iff] at hly
      have Habs := Lib.hid (fun W => spec_l3Abs y W (by omega) (by omega))
      have Hy := Lib.hid hy; have Hwr := Lib.hid hwr; clear hy hwr hly
      by_cases he : (y.natAbs : Int) = x
      · have b1 : ((y.natAbs : Int) == x) = true := beq_iff_eq.2 he
        obtain ⟨h1, h2⟩ := hno.out.at Hy.out he
        have Hres := Lib.hid (show Mv.idxOf l x = (i : Int) by rw [Mv.idxOf_in h2, h1])
        have He := Lib.hid he
        clear he h1 h2
        go_wp2_with fail
        refine (Habs.out _).mono ?_
        rintro e w9 ⟨rfl, hw9⟩
        rw [hw9]; clear hw9 w9
        go_wp2
        go_ret
        exact ⟨by rw [Hres.out]; rfl, Hwr.out⟩
      · have b1 : ((y.natAbs : Int) == x) = false := beq_eq_false_iff_ne.2 he
        have Hno := Lib.hid (hno.out.step Hy.out he)
        have He := Lib.hid he
        clear he
        go_wp2_with fail
        refine (Habs.out _).mono ?_
        rintro e w9 ⟨rfl, hw9⟩
        rw [hw9]; clear hw9 w9
        go_wp2
        go_roundw
        case rel => exact ⟨Hwr.out, i + 1, by omega, by go_num, Hno⟩
        case measure => simp [intOf]; omega
    · obtain rfl : i = l.length := by omega
      have Hres := Lib.hid (Mv.idxOf_out hno.out.none)
      have Hwr := Lib.hid hwr; clear hwr
      go_wp2
      go_ret
      exact ⟨by rw [Hres.out]; rfl, Hwr.out⟩
set_option maxRecDepth 10000 in
set_option maxHeartbeats 1000000 in
theorem spec_l5Count (a : Option Addr) (cap X : Nat) (l : List Int) (w : World) (ha : RowAt w a (intCells l)) (hl : l.length ≤ 1000) (hL : ∀ s ∈ l, Word.Letter s) :
    Calls Try.prog 63 #[.slice a l.length cap, .int .i64 (X : Int)] w fun e w' => e = .returned (.int .i64 ((Mv.cnt l X : Nat) : Int)) ∧ w' = w := by
  have Ha := Lib.hid ha; have HL := Lib.hid hL
  clear ha hL
  have Hbt := Lib.hid (fun W => spec_l1Bit true W); have Hbf := Lib.hid (fun W => spec_l1Bit false W)
  go_enter Try.func63, Try.ntmps63
  go_wp2
  go_loopw [5, 6] (fun nv iv wr => wr = w ∧ ∃ i n : Nat, i ≤ l.length ∧ iv = .int .i64 i ∧ nv = .int .i64 n ∧ n ≤ i ∧ Hid (n = Mv.cnt (l.take i) X)) (fun _ iv _ => l.length - (intOf iv).toNat)
  case atStart => exact ⟨rfl, 0, 0, by omega, rfl, rfl, by omega, Lib.hid (by simp [Mv.cnt])⟩
  case round =>
    obtain ⟨hwr, i, n, hi, rfl, rfl, hni, hn⟩ := hrel
    by_cases hlt : i < l.length
    · obtain ⟨y, hy⟩ := get_some hlt
      obtain ⟨b, o, rfl, hbw, hcell⟩ := intCells_get? (w := wr) (by rw [hwr]; exact Ha.out) hy
      have hly := HL.out y (get_mem hy)
      rw [Word.letter_iff] at hly
      have Habs := Lib.hid (fun W => spec_l3Abs y W (by omega) (by omega))
      have Hst := Lib.hid (Mv.cnt_take hy X)
      have Hwr := Lib.hid hwr; clear hy hwr hly
      by_cases he : y.natAbs = X
      · have b1 : ((y.natAbs : Int) == (X : Int)) = true := beq_iff_eq.2 (by omega)
        have He := Lib.hid he
        subst he
        go_wp2_with fail
        refine (Habs.out _).mono ?_
        rintro e w9 ⟨rfl, hw9⟩
        rw [hw9]; clear hw9 w9
        go_wp2_with fail
        refine (Hbt.out _).mono ?_
        rintro e w9 ⟨rfl, hw9⟩
        rw [hw9]; clear hw9 w9
        go_wp2
        go_roundw
        case rel => exact ⟨Hwr.out, i + 1, n + 1, by omega, by go_num, by go_num, by omega, Lib.hid (by rw [Hst.out, ← hn.out]; simp)⟩
        case measure => simp [intOf]; omega
      · have b1 : ((y.natAbs : Int) == (X : Int)) = false := beq_eq_false_iff_ne.2 (by omega)
        have He := Lib.hid he
        go_wp2_with fail
        refine (Habs.out _).mono ?_
        rintro e w9 ⟨rfl, hw9⟩
        rw [hw9]; clear hw9 w9
        go_wp2_with fail
        refine (Hbf.out _).mono ?_
        rintro e w9 ⟨rfl, hw9⟩
        rw [hw9]; clear hw9 w9
        go_wp2
        go_roundw
        case rel => exact ⟨Hwr.out, i + 1, n, by omega, by go_num, by first | rfl | go_num, by omega, Lib.hid (by rw [Hst.out, if_neg He.out, ← hn.out]; rfl)⟩
        case measure => simp [intOf]; omega
    · obtain rfl : i = l.length := by omega
      have Hwr := Lib.hid hwr; clear hwr
      go_wp2
      go_ret
      have h1 := hn.out
      rw [List.take_of_length_le (Nat.le_refl _)] at h1
      exact ⟨by rw [← h1]; rfl, Hwr.out⟩
end Go.Proofs.Ytlfniodocaiijaa
