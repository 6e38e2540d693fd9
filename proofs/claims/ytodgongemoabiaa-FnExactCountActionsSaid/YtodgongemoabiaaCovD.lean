/-
  The walks of the model's l9Parts and SheetParts.
-/
import Derived.Test.YtodgongemoabiaaBase
import Derived.Test.YtodgongemoabiaaSlice
import Derived.Test.YtodgongemoabiaaIntRow
import Derived.Test.YtodgongemoabiaaInts
import Derived.Test.YtodgongemoabiaaOwn
import Derived.Test.YtodgongemoabiaaAppend
import Derived.Test.YtodgongemoabiaaWord
import Derived.Test.YtodgongemoabiaaIsWord
import Derived.Test.YtodgongemoabiaaGrid
import Derived.Test.YtodgongemoabiaaGridWalk
import Derived.Test.YtodgongemoabiaaGridRows
import Derived.Test.YtodgongemoabiaaRowI
import Derived.Test.YtodgongemoabiaaRowsLit
import Derived.Test.YtodgongemoabiaaClass
import Derived.Test.YtodgongemoabiaaTri
import Derived.Test.YtodgongemoabiaaLab
import Derived.Test.YtodgongemoabiaaMap
import Derived.Test.YtodgongemoabiaaMapA
import Derived.Test.YtodgongemoabiaaMapB
import Derived.Test.YtodgongemoabiaaMapC
import Derived.Test.YtodgongemoabiaaMapE
import Derived.Test.YtodgongemoabiaaUses
import Derived.Test.YtodgongemoabiaaCov
import Derived.Test.YtodgongemoabiaaCovA
import Derived.Deep.QuietTactic
import Derived.BigQuiet
import Derived.StillTailTactics
namespace Go.Proofs.Ytodgongemoabiaa
open Go.RowKit

namespace Cv
theorem minlink {u c d : Nat → Nat} {n a b : Nat} (h : Cls.Up u c d n) (ha : a < n) (hb : b < n) : ∃ d', Cls.Up (fun k => if k = max (c a) (c b) then min (c a) (c b) else u k) (minMerge c (a, b)) d' n := by
  unfold minMerge
  by_cases e : c a ≤ c b
  · rw [if_pos e]
    have := h.link (p := (b, a)) hb ha
    rw [show max (c a) (c b) = c b by omega, show min (c a) (c b) = c a by omega]
    exact ⟨_, this⟩
  · rw [if_neg e]
    have := h.link (p := (a, b)) ha hb
    rw [show max (c a) (c b) = c a by omega, show min (c a) (c b) = c b by omega]
    exact ⟨_, this⟩
/-- The classes whose least members lie below s; the members of a class below t. -/
def pTo (c : Nat → Nat) (n s : Nat) : List (List Nat) := ((List.range s).filter fun s => decide (∀ k, k < s → c k ≠ c s)).map (member c n)
def mTo (c : Nat → Nat) (s t : Nat) : List Nat := (List.range t).filter fun t => c t == c s
theorem pTo_zero (c : Nat → Nat) (n : Nat) : pTo c n 0 = [] := rfl
theorem pTo_yes {c : Nat → Nat} {n s : Nat} (h : ∀ k, k < s → c k ≠ c s) : pTo c n (s + 1) = pTo c n s ++ [mTo c s n] := by
  unfold pTo
  rw [List.range_succ, List.filter_append, List.map_append]
  congr 1
  rw [List.filter_cons, if_pos (decide_eq_true h)]; rfl
theorem pTo_no {c : Nat → Nat} {n s : Nat} (h : ¬ ∀ k, k < s → c k ≠ c s) : pTo c n (s + 1) = pTo c n s := by
  unfold pTo
  rw [List.range_succ, List.filter_append, List.map_append, List.filter_cons, if_neg (by rw [decide_eq_false h]; decide)]
  simp
theorem pTo_end (c : Nat → Nat) (n : Nat) : pTo c n n = classes c n := rfl
theorem pTo_len (c : Nat → Nat) (n s : Nat) : (pTo c n s).length ≤ s := by
  unfold pTo
  rw [List.length_map]
  have := List.length_filter_le (fun s => decide (∀ k, k < s → c k ≠ c s)) (List.range s)
  rwa [List.length_range] at this
theorem mTo_len (c : Nat → Nat) (s t : Nat) : (mTo c s t).length ≤ t := by
  unfold mTo
  have := List.length_filter_le (fun t => c t == c s) (List.range t)
  rwa [List.length_range] at this
theorem mTo_yes {c : Nat → Nat} {s t : Nat} (h : c t = c s) : intsOf (mTo c s (t + 1)) = intsOf (mTo c s t) ++ [(t : Int)] := by
  unfold mTo
  rw [List.range_succ, List.filter_append, List.filter_cons, if_pos (by simp [h]), List.filter_nil, intsOf_snoc]
theorem mTo_no {c : Nat → Nat} {s t : Nat} (h : c t ≠ c s) : intsOf (mTo c s (t + 1)) = intsOf (mTo c s t) := by
  unfold mTo
  rw [List.range_succ, List.filter_append, List.filter_cons, if_neg (by simp [h]), List.filter_nil, List.append_nil]
theorem parts_min (L : List (List Int)) : partsN L = classes (minAll (pairs L)) (deg L) := (classes_ker (minAll_ker (pairs L)) (deg L)).symm
end Cv

set_option maxRecDepth 10000 in
theorem spec_l1MinG (x y : Int) (w : World) : Calls Try.prog 178 #[.int .i64 x, .int .i64 y] w fun e w' => e = .returned (.int .i64 (min x y)) ∧ w' = w := by
  by_cases h : x < y
  · rw [show min x y = x by omega]
    go_enter Try.func178, Try.ntmps178
    go_wp2
    go_ret
    exact ⟨rfl, rfl⟩
  · rw [show min x y = y by omega]
    go_enter Try.func178, Try.ntmps178
    go_wp2
    go_ret
    exact ⟨rfl, rfl⟩

set_option maxRecDepth 10000 in
set_option maxHeartbeats 4000000 in
theorem spec_l9Parts (a : Option Addr) (c : Nat) (L : List (List Int)) (w : World) (ha : GridAt w a L) (hP : Cv.Perms L) :
    Calls Try.prog 136 #[.slice a L.length c] w fun e w' => GivesRows w (Mp.natRows (Cv.partsN L)) e w' := by
  obtain ⟨i0, hi0, hz0, hz1, hz2⟩ := info_int_parts
  obtain ⟨j0, hj0, hy0, hy1, hy2⟩ := info_ints_parts
  have h5 := hP.2.2.2.2
  have h1 := hP.2.2.2.1
  have hl1 := hP.2.1
  have hl8 := hP.2.2.1
  have hown0 := own_made (w := w) rfl
  have hb0 := (Below.refl w.heap.size w).alloc (Nat.le_refl _) (.cells #[] 3)
  rw [Cv.parts_min]
  obtain ⟨r0, hr0, hr0l⟩ := Cv.head_get (L := L) (by omega)
  obtain ⟨b0, o0, a0, c0, rfl, hbw0, hcell0, _⟩ := ha.get hr0
  rw [Nat.add_zero, hr0l] at hcell0
  have i2 : 0 < L.length := by omega
  have hlt : ∀ q ∈ L, ∀ s, s < Cv.deg L → q[s]? = some ((Mp.at_ q s : Nat) : Int) ∧ Mp.at_ q s < Cv.deg L := fun q hq s hs => by
    obtain ⟨k1, k2⟩ := hP.1 q hq
    refine ⟨Mp.at_get k2 (by omega), ?_⟩
    have := Mp.at_lt k2 (d := s) (by omega); omega
  have hrl : ∀ q ∈ L, q.length = Cv.deg L := fun q hq => (hP.1 q hq).1
  obtain ⟨n, hn⟩ : ∃ n, n = Cv.deg L := ⟨_, rfl⟩
  rw [← hn] at hcell0 h5 h1 hlt hrl ⊢
  obtain ⟨R, hR⟩ : ∃ R, Cv.classes (Cv.minAll (Cv.pairs L)) n = R := ⟨_, rfl⟩
  rw [hR]
  generalize hN : w.heap.size = N at *
  have HN := Lib.hid hN
  have Hi0 := Lib.hid hi0; have Hz0 := Lib.hid hz0; have Hz1 := Lib.hid hz1; have Hz2 := Lib.hid hz2
  have Hj0 := Lib.hid hj0; have Hy0 := Lib.hid hy0; have Hy1 := Lib.hid hy1; have Hy2 := Lib.hid hy2
  have Hown0 := Lib.hid hown0; have Hb0 := Lib.hid hb0; have Ha := Lib.hid ha; have Hc0 := Lib.hid hcell0; have Hlt := Lib.hid hlt; have Hrl := Lib.hid hrl; have HR := Lib.hid hR
  have hrd0 : Hid (∀ W, Below N w W → W.cell? ⟨b0, o0, none⟩ = some (.slice a0 n c0)) := Lib.hid (fun W h => by rw [h.cell (p := ⟨b0, o0, none⟩) hbw0]; exact Hc0.out)
  clear hi0 hz0 hz1 hz2 hj0 hy0 hy1 hy2 hown0 hb0 ha hP hr0 hr0l hcell0 hlt hn hrl hR
  go_enter Try.func136, Try.ntmps136
  go_wp2
  go_loopw [3, 4] (fun ov iv wr => ∃ i : Nat, i ≤ n ∧ iv = .int .i64 i ∧ Hid (Below N w wr) ∧ wr.ownsRow N 3 1 ov i (intCells (Cls.row id i))) (fun _ iv _ => n - (intOf iv).toNat)
  case atStart => exact ⟨0, by omega, rfl, Hb0, Hown0.out⟩
  case round =>
    obtain ⟨i, hi, rfl, hb, hown⟩ := hrel
    have c1 := hrd0.out wr hb.out
    by_cases hlti : i < n
    · have hNle : N ≤ wr.heap.size := by have := hb.out.size; rw [HN.out] at this; exact this
      have Hst := Lib.hid (row_snoc id i)
      obtain ⟨av, cv, rfl⟩ := own_len hown
      have hm1 : i + 1 ≤ maxLen := by unfold maxLen; omega
      have hm2 : (i + 1) * 8 ≤ 140737488355328 := by omega
      generalize Cls.row id i = X at *
      go_wp2_with (at_builtin; refine append_one rfl (.tmp 22) (.tmp 24) 42 rfl N 3 i0 _ 8 Try.underlying42 Hi0.out Hz0.out Hz1.out Hz2.out (by rfl) _ _ _ rfl hown (by rfl) _ rfl hm1 hm2 hNle ?_; intro v1 w1 hown1 hg1 _)
      go_roundw
      case rel =>
        refine ⟨i + 1, by omega, by go_num, Lib.hid (Below.grown (hb.out.alloc hNle _) hg1 (by simp; omega) (fun k hk => (hown.lt k hk).1)), ?_⟩
        rw [← Hst.out, ← intCells_snoc]; exact hown1
      case measure => simp [intOf]; omega
    · obtain rfl : n = i := by omega
      obtain ⟨g, cap, rfl, hcap, hcm⟩ := own_form hown (by omega)
      have hgN := (hown.lt g rfl).1
      have Hlab := Lib.hid (ownRow_lab hown); have HgN := Lib.hid hgN
      clear hown hgN
      go_wp2
      clear c1
      go_loopw [5, 6, 7, 8] (fun iv _ _ _ wr => ∃ i : Nat, i ≤ L.length ∧ iv = .int .i64 i ∧ Hid (Below N w wr) ∧ Hid (∃ u d, Lab wr g u n ∧ Cls.Up u (Cv.minAll (met Cv.step1 L i 0)) d n)) (fun iv _ _ _ _ => L.length - (intOf iv).toNat)
      case atStart => exact ⟨0, by omega, rfl, hb, Lib.hid ⟨id, _, Hlab.out, Cls.Up.start _⟩⟩
      case round =>
        clear hb Hlab
        obtain ⟨k, hk, rfl, hb, hun⟩ := hrel
        by_cases hltk : k < L.length
        · obtain ⟨q, hq⟩ := get_some hltk
          have hql := Hrl.out q (get_mem hq)
          have hqa := Hlt.out q (get_mem hq)
          have hnx := met_next (f := Cv.step1) hq
          rw [hql] at hnx
          have hst := fun j => met_step (f := Cv.step1) j hq
          have Hnx := Lib.hid hnx; have Hst := Lib.hid hst; have Hqa := Lib.hid hqa; have Hq := Lib.hid hq; have Hql := Lib.hid hql
          clear hnx hst hqa hq hql
          go_wp2
          go_loopw [6, 7, 8] (fun jv _ _ wr => ∃ j : Nat, j ≤ n ∧ jv = .int .i64 j ∧ Hid (Below N w wr) ∧ Hid (∃ u d, Lab wr g u n ∧ Cls.Up u (Cv.minAll (met Cv.step1 L k j)) d n)) (fun jv _ _ _ => n - (intOf jv).toNat)
          case atStart => exact ⟨0, by omega, rfl, hb, hun⟩
          case round =>
            clear hb hun
            obtain ⟨j, hj, rfl, hb, hun⟩ := hrel
            by_cases hltj : j < n
            · obtain ⟨u, d, hlab, hup⟩ := hun.out
              obtain ⟨hqj, hyn⟩ := Hqa.out j hltj
              obtain ⟨b, o, ai, ci, e0, hbw, hcell, hrow⟩ := (Ha.out.below (by rw [HN.out]; exact hb.out)).get Hq.out
              cases e0
              rw [Hql.out] at hcell
              obtain ⟨b2, o2, rfl, hbw2, hcell2⟩ := intCells_get? hrow hqj
              obtain ⟨d', hup'⟩ := Cv.minlink hup hltj hyn
              rw [show Cv.minMerge (Cv.minAll (met Cv.step1 L k j)) (j, Mp.at_ q j) = Cv.minAll (met Cv.step1 L k (j + 1)) by rw [Hst.out j, Cv.minAll_snoc]; rfl] at hup'
              have hca := hup.ok.lt j hltj
              have hcb := hup.ok.lt _ hyn
              have hfx := fun W h => spec_l3Find (some ⟨g, 0, none⟩) cap n u _ d j (j : Int) rfl W h hup hltj (by omega)
              have hfy := fun W h => spec_l3Find (some ⟨g, 0, none⟩) cap n u _ d (Mp.at_ q j) ((Mp.at_ q j : Nat) : Int) rfl W h hup hyn (by omega)
              have Hup' := Lib.hid hup'
              clear hup' hup
              generalize Cv.minAll (met Cv.step1 L k j) j = x at *
              generalize Cv.minAll (met Cv.step1 L k j) (Mp.at_ q j) = y at *
              generalize Mp.at_ q j = z at *
              have hmx := fun W => spec_l1Max (x : Int) (y : Int) W
              have hmn := fun W => spec_l1MinG (x : Int) (y : Int) W
              rw [show max (x : Int) (y : Int) = ((max x y : Nat) : Int) by omega] at hmx
              rw [show min (x : Int) (y : Int) = ((min x y : Nat) : Int) by omega] at hmn
              have hmlt : max x y < n := by omega
              have hput := hlab.put (b := min x y) hmlt
              have hdst := hlab.cell hmlt
              have hfz := hlab.frozen (max x y)
              have hrowl := hlab.row
              generalize max x y = mx at *
              generalize min x y = mn at *
              have hc0 : (0 : Int) ≤ (mx : Int) := by omega
              have hc1 : (mx : Int) < (n : Int) := by omega
              have hi0 : (0 : Int) ≤ (k : Int) := by omega
              have hi1 : (k : Int) < (L.length : Int) := by omega
              have hj0' : (0 : Int) ≤ (j : Int) := by omega
              have hj1 : (j : Int) < (n : Int) := by omega
              have Hfx := Lib.hid hfx; have Hfy := Lib.hid hfy; have Hmx := Lib.hid hmx; have Hmn := Lib.hid hmn; have Hput := Lib.hid hput; have Hrow := Lib.hid hrowl
              clear hfx hfy hmx hmn hput hrowl hlab hqj hun hrow
              generalize u mx = um at hdst
              go_wp2_with fail
              refine (Hfx.out _ Hrow.out).mono ?_
              rintro e w2 ⟨rfl, hw2⟩
              rw [hw2]; clear hw2 w2
              go_wp2_with fail
              refine (Hfy.out _ Hrow.out).mono ?_
              rintro e w2 ⟨rfl, hw2⟩
              rw [hw2]; clear hw2 w2
              go_wp2_with fail
              refine (Hmx.out _).mono ?_
              rintro e w2 ⟨rfl, hw2⟩
              rw [hw2]; clear hw2 w2
              go_wp2_with fail
              refine (Hmn.out _).mono ?_
              rintro e w2 ⟨rfl, hw2⟩
              rw [hw2]; clear hw2 w2
              go_wp2
              go_roundw
              case rel => exact ⟨j + 1, by omega, by go_num, Lib.hid (hb.out.setCell HgN.out _), Lib.hid ⟨_, d', Hput.out, Hup'.out⟩⟩
              case measure => simp [intOf]; omega
            · obtain rfl : n = j := by omega
              rw [Hnx.out] at hun
              go_wp2
              go_roundw
              case rel => exact ⟨k + 1, by omega, by go_num, hb, hun⟩
              case measure => simp [intOf]; omega
        · obtain rfl : k = L.length := by omega
          rw [met_end] at hun
          obtain ⟨u, d, hlab, hup⟩ := hun.out
          have hle := Cv.minAll_le (Cv.pairs L)
          have hup2 : Cls.Up u (Cv.minAll (Cv.pairs L)) d n := hup
          generalize Cv.minAll (Cv.pairs L) = f at *
          have Hup := Lib.hid hup2; have Hlab := Lib.hid hlab; have Hle := Lib.hid hle
          obtain ⟨wo, rfl⟩ : ∃ wo : World, wo = wr := ⟨_, rfl⟩
          have hglt := hlab.lt
          have HNo : Hid (N ≤ wo.heap.size) := Lib.hid (by have := hb.out.size; rw [HN.out] at this; exact this)
          clear hun hlab hup hup2 hle
          go_wp2
          go_loopw [9, 10, 11, 12] (fun ov sv _ _ wr => ∃ s : Nat, s ≤ n ∧ sv = .int .i64 s ∧ Hid (RowsIn wo wo.heap.size wr ov (Mp.natRows (Cv.pTo f n s)))) (fun _ sv _ _ _ => n - (intOf sv).toNat)
          case atStart => exact ⟨0, by omega, rfl, Lib.hid (RowsIn.made (Below.refl _ _) (Nat.le_refl _))⟩
          case round =>
            obtain ⟨s, hs, rfl, hrows⟩ := hrel
            by_cases hlts : s < n
            · obtain ⟨hs0, e1, hown, hin, hap, hbl⟩ := hrows.out
              have hlabr := Hlab.out.below hbl hglt
              have hcs := hlabr.cell hlts
              have hroot := Hup.out.root s hlts
              have hfm := Cv.firsts_min (c := f) (n := n) (fun k _ => Hle.out k) (fun k hk => Hup.out.ok.idem k hk) hlts
              have hs0' : (0 : Int) ≤ (s : Int) := by omega
              have hs1 : (s : Int) < (n : Int) := by omega
              by_cases he : u s = s
              · have hfs := hroot.1 he
                have hne : ((u s : Int) != (s : Int)) = false := by simp [he]
                have Hyes := Lib.hid (Cv.pTo_yes (n := n) (hfm.2 hfs))
                have Hfs := Lib.hid hfs
                have Hlabr := Lib.hid hlabr; have He1 := Lib.hid e1; have Hown := Lib.hid hown; have Hin := Lib.hid hin; have Hap := Lib.hid hap; have Hbl := Lib.hid hbl
                have hwo := hbl.size
                generalize ((u s : Nat) : Int) = us at *
                clear hroot hfm he hfs hlabr e1 hown hin hap hbl
                obtain ⟨wi, rfl⟩ : ∃ wi : World, wi = wr := ⟨_, rfl⟩
                have Hmk := Lib.hid (own_made (w := wi) rfl)
                have hal := (Below.refl wi.heap.size wi).alloc (Nat.le_refl _) (.cells #[] 3)
                go_wp2
                go_loopw [11, 12] (fun pv tv w2 => ∃ t : Nat, t ≤ n ∧ tv = .int .i64 t ∧ Hid (Below wi.heap.size wi w2) ∧ w2.ownsRow wi.heap.size 3 1 pv (Cv.mTo f s t).length (intCells (intsOf (Cv.mTo f s t)))) (fun _ tv _ => n - (intOf tv).toNat)
                case atStart => exact ⟨0, by omega, rfl, Lib.hid hal, Hmk.out⟩
                case round =>
                  obtain ⟨t, ht, rfl, hb2, hown2⟩ := hrel
                  by_cases hltt : t < n
                  · have hfx := spec_l3Find (some ⟨g, 0, none⟩) cap n u f d t (t : Int) rfl wr (Hlabr.out.below hb2.out Hlabr.out.lt).row Hup.out hltt (by omega)
                    have hml := Cv.mTo_len f s t
                    have hNle : wi.heap.size ≤ wr.heap.size := hb2.out.size
                    obtain ⟨av, cv, rfl⟩ := own_len hown2
                    by_cases hft : f t = s
                    · have heq : (((f t : Nat) : Int) == (s : Int)) = true := by simp [hft]
                      have Hy := Lib.hid (Cv.mTo_yes (c := f) (s := s) (t := t) (by rw [hft, Hfs.out]))
                      generalize f t = ft at *
                      have hln : (Cv.mTo f s (t + 1)).length = (Cv.mTo f s t).length + 1 := by have := congrArg List.length Hy.out; simpa [intsOf] using this
                      have Hln := Lib.hid hln
                      have hm1 : (Cv.mTo f s t).length + 1 ≤ maxLen := by unfold maxLen; omega
                      have hm2 : ((Cv.mTo f s t).length + 1) * 8 ≤ 140737488355328 := by omega
                      have Hfx := Lib.hid hfx; have Hown2 := Lib.hid hown2
                      clear hfx hft hown2 hln
                      generalize (Cv.mTo f s t).length = ml at *
                      go_wp2_with fail
                      refine Hfx.out.mono ?_
                      rintro e w3 ⟨rfl, hw3⟩
                      rw [hw3]; clear hw3 w3
                      go_wp2_with (at_builtin; refine append_one rfl (.tmp 83) (.tmp 85) 42 rfl wi.heap.size 3 i0 _ 8 Try.underlying42 Hi0.out Hz0.out Hz1.out Hz2.out (by rfl) _ _ _ rfl Hown2.out (by rfl) _ rfl hm1 hm2 hNle ?_; intro v1 w1 hown1 hg1 _)
                      go_roundw
                      case rel =>
                        refine ⟨t + 1, by omega, by go_num, Lib.hid (Below.grown (hb2.out.alloc hNle _) hg1 (by simp; omega) (fun k hk => (Hown2.out.lt k hk).1)), ?_⟩
                        rw [Hln.out, Hy.out, ← intCells_snoc]; exact hown1
                      case measure => simp [intOf]; omega
                    · have heq : (((f t : Nat) : Int) == (s : Int)) = false := beq_eq_false_iff_ne.2 (by omega)
                      have hno := Cv.mTo_no (c := f) (s := s) (t := t) (by rw [Hfs.out]; exact hft)
                      have hln : (Cv.mTo f s (t + 1)).length = (Cv.mTo f s t).length := by have := congrArg List.length hno; simpa [intsOf] using this
                      have Hno := Lib.hid hno; have Hln := Lib.hid hln
                      generalize f t = ft at *
                      have Hfx := Lib.hid hfx
                      clear hfx hft hno hln
                      go_wp2_with fail
                      refine Hfx.out.mono ?_
                      rintro e w3 ⟨rfl, hw3⟩
                      rw [hw3]; clear hw3 w3
                      go_wp2
                      go_roundw
                      case rel => exact ⟨t + 1, by omega, by go_num, hb2, by rw [Hln.out, Hno.out]; exact hown2⟩
                      case measure => simp [intOf]; omega
                  · obtain rfl : n = t := by omega
                    obtain ⟨pa, pc, rfl, hpc, hfr⟩ := own_fresh hown2 (by rw [intCells_len, intsOf_len])
                    have hlen := Cv.pTo_len f n s
                    have hlp : (Mp.natRows (Cv.pTo f n s)).length = (Cv.pTo f n s).length := Mp.natRows_len _
                    have hown3 := own_keep Hown.out hb2.out (fun k hk => (Hown.out.lt k hk).2)
                    rw [hlp] at hown3
                    obtain ⟨ova, ovc, hov⟩ := own_len hown3
                    subst hov
                    have hm1 : (Cv.pTo f n s).length + 1 ≤ maxLen := by unfold maxLen; omega
                    have hm2 : ((Cv.pTo f n s).length + 1) * 24 ≤ 140737488355328 := by omega
                    have hN2 : wo.heap.size ≤ wr.heap.size := by have := hb2.out.size; omega
                    have Hfr := Lib.hid hfr; have Hpc := Lib.hid hpc; have Hlp := Lib.hid hlp; have Hown3 := Lib.hid hown3
                    have hil : (intsOf (Cv.mTo f s n)).length = (Cv.mTo f s n).length := intsOf_len _
                    have Hil := Lib.hid hil
                    clear hfr hpc hlp hown3 hown2 hlen hil
                    generalize hpl : (Cv.pTo f n s).length = pl at *
                    have Hpl := Lib.hid hpl
                    generalize hml : (Cv.mTo f s n).length = ml at *
                    have Hml := Lib.hid hml
                    clear hpl hml
                    go_wp2_with (at_builtin; refine append_one rfl (.tmp 87) (.tmp 89) 24 rfl wo.heap.size 42 j0 _ 24 Try.underlying24 Hj0.out Hy0.out Hy1.out Hy2.out (by rfl) _ _ _ rfl Hown3.out (by rfl) _ rfl hm1 hm2 hN2 ?_; intro v1 w1 hown1 hg1 _)
                    go_roundw
                    case rel =>
                      refine ⟨s + 1, by omega, by go_num, Lib.hid ?_⟩
                      rw [Hyes.out, Mp.natRows_snoc]
                      exact RowsIn.push (c := pc) (a := pa) (l := intsOf (Cv.mTo f s n)) He1.out Hown.out Hin.out Hap.out Hbl.out hwo hb2.out Hfr.out (by rw [Hil.out]; exact Hpc.out) (by rw [Hlp.out, Hil.out]; exact hown1) hg1
                    case measure => simp [intOf]; omega
              · have hfs : ¬ f s = s := fun h => he (hroot.2 h)
                have hne : ((u s : Int) != (s : Int)) = true := by simp; omega
                have Hno := Lib.hid (Cv.pTo_no (n := n) (fun h => hfs (hfm.1 h)))
                generalize ((u s : Nat) : Int) = us at *
                clear hroot hfm he hfs hlabr e1 hown hin hap hbl
                go_wp2
                go_roundw
                case rel => exact ⟨s + 1, by omega, by go_num, by rw [Hno.out]; exact hrows⟩
                case measure => simp [intOf]; omega
            · obtain rfl : n = s := by omega
              have hg := (hrows.out.gives).later (w := w) (by rw [HN.out]; exact hb.out)
              rw [Cv.pTo_end, HR.out] at hg
              have Hg := Lib.hid hg
              obtain ⟨oa, oc, e, _⟩ := hg
              cases e
              clear hrows
              go_wp2
              go_ret
              exact Hg.out
theorem Cv.parts_of {L : List (List Int)} (h : Cv.Perms L) : Cv.parts L = Mp.natRows (Cv.partsN L) := if_pos h
theorem Cv.parts_not {L : List (List Int)} (h : ¬ Cv.Perms L) : Cv.parts L = [] := if_neg h
set_option maxRecDepth 10000 in
set_option maxHeartbeats 1000000 in
theorem spec_SheetParts (a : Option Addr) (c : Nat) (L : List (List Int)) (w : World) (ha : GridAt w a L) (hL : ∀ p ∈ L, p.length ≤ 1048576) (hn : L.length ≤ 1048576) :
    Calls Try.prog 58 #[.slice a L.length c] w fun e w' => GivesRows w (Cv.parts L) e w' := by
  have hcP := spec_l9Perms a c L w ha hL hn
  by_cases hP : Cv.Perms L
  · rw [decide_eq_true hP] at hcP
    rw [Cv.parts_of hP]
    have hc := fun W (hb : Below w.heap.size w W) => spec_l9Parts a c L W (ha.below hb) hP
    generalize Mp.natRows (Cv.partsN L) = R at *
    have HcP := Lib.hid hcP; have Hc := Lib.hid hc
    clear hcP hc ha hL hP
    go_enter Try.func58, Try.ntmps58
    go_wp2_with fail
    refine HcP.out.mono ?_
    rintro e w1 ⟨rfl, hb1⟩
    have Hb1 := Lib.hid hb1; clear hb1
    go_wp2_with fail
    refine (Hc.out _ Hb1.out).mono ?_
    rintro e w2 hg
    have Hg := Lib.hid (hg.later Hb1.out)
    obtain ⟨oa, oc, rfl, _⟩ := hg
    go_wp2
    go_ret
    exact Hg.out
  · rw [decide_eq_false hP] at hcP
    rw [Cv.parts_not hP]
    have HcP := Lib.hid hcP
    clear hcP ha hL hP
    go_enter Try.func58, Try.ntmps58
    go_wp2_with fail
    refine HcP.out.mono ?_
    rintro e w1 ⟨rfl, hb1⟩
    have Hb1 := Lib.hid hb1; clear hb1
    go_wp2
    go_ret
    exact GivesRows.none (Hb1.out.alloc Hb1.out.size _)
end Go.Proofs.Ytodgongemoabiaa
