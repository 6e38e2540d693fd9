/-
  The walks of the model's l9Parts and SheetParts. Rows that a call holds in a block, each grown where it stands; what slices.DeleteFunc leaves of them when the empty ones go. The walk of the program's SheetParts. Rows of integers of a call's own, each in a block of its own: one of them grows, the others stay. The walks of the program's cyclesAmong and sheetCycles. The walks of the model's l9Put and LiftLengths. The walk of the program's LiftLengths.
-/
import Derived.Test.YtamgimdjnmcpaaaGreatBase
import Derived.Test.YtamgimdjnmcpaaaGreatSlice
import Derived.Test.YtamgimdjnmcpaaaGreatIntRow
import Derived.Test.YtamgimdjnmcpaaaGreatInts
import Derived.Test.YtamgimdjnmcpaaaGreatOwn
import Derived.Test.YtamgimdjnmcpaaaGreatAppend
import Derived.Test.YtamgimdjnmcpaaaGreatWord
import Derived.Test.YtamgimdjnmcpaaaGreatIsWord
import Derived.Test.YtamgimdjnmcpaaaGreatGrid
import Derived.Test.YtamgimdjnmcpaaaGreatGridWalk
import Derived.Test.YtamgimdjnmcpaaaGreatGridRows
import Derived.Test.YtamgimdjnmcpaaaGreatClass
import Derived.Test.YtamgimdjnmcpaaaGreatTri
import Derived.Test.YtamgimdjnmcpaaaGreatLab
import Derived.Test.YtamgimdjnmcpaaaGreatMap
import Derived.Test.YtamgimdjnmcpaaaGreatMapA
import Derived.Test.YtamgimdjnmcpaaaGreatMapB
import Derived.Test.YtamgimdjnmcpaaaGreatUses
import Derived.Test.YtamgimdjnmcpaaaGreatCov
import Derived.Test.YtamgimdjnmcpaaaGreatCovA
import Derived.Deep.QuietTactic
import Derived.BigQuiet
import Derived.StillTailTactics
import Derived.Test.YtamgimdjnmcpaaaGreatPut
import Derived.Lib.SliceRun
import Derived.Test.YtamgimdjnmcpaaaGreatShelfSort
import Derived.Sort.OwnSortedInts
namespace Go.Proofs.YtamgimdjnmcpaaaGreat
open Go.RowKit

namespace Cv
theorem minlink {u c d : Nat → Nat} {n a b : Nat} (h : Cls.Up u c d n) (ha : a < n) (hb : b < n) : ∃ d', Cls.Up (fun k => if k = max (c a) (c b) then min (c a) (c b) else u k) (minMerge c (a, b)) d' n := by
  unfold minMerge
  by_cases e : c a ≤ c b
  · rw [if_pos e]
    have := h.link (p := (b, a)) hb ha
    rw [show max (c a) (c b) = c b by omega, show min (c a) (c b) = c a by omega]
    exact ⟨_, this⟩
  · rw [if_neg e]
    have := h.link (p := (a, b)) ha hb
    rw [show max (c a) (c b) = c a by omega, show min (c a) (c b) = c b by omega]
    exact ⟨_, this⟩
/-- The classes whose least members lie below s; the members of a class below t. -/
def pTo (c : Nat → Nat) (n s : Nat) : List (List Nat) := ((List.range s).filter fun s => decide (∀ k, k < s → c k ≠ c s)).map (member c n)
def mTo (c : Nat → Nat) (s t : Nat) : List Nat := (List.range t).filter fun t => c t == c s
theorem pTo_zero (c : Nat → Nat) (n : Nat) : pTo c n 0 = [] := rfl
theorem pTo_yes {c : Nat → Nat} {n s : Nat} (h : ∀ k, k < s → c k ≠ c s) : pTo c n (s + 1) = pTo c n s ++ [mTo c s n] := by
  unfold pTo
  rw [List.range_succ, List.filter_append, List.map_append]
  congr 1
  rw [List.filter_cons, if_pos (decide_eq_true h)]; rfl
theorem pTo_no {c : Nat → Nat} {n s : Nat} (h : ¬ ∀ k, k < s → c k ≠ c s) : pTo c n (s + 1) = pTo c n s := by
  unfold pTo
  rw [List.range_succ, List.filter_append, List.map_append, List.filter_cons, if_neg (by rw [decide_eq_false h]; decide)]
  simp
theorem pTo_end (c : Nat → Nat) (n : Nat) : pTo c n n = classes c n := rfl
theorem pTo_len (c : Nat → Nat) (n s : Nat) : (pTo c n s).length ≤ s := by
  unfold pTo
  rw [List.length_map]
  have := List.length_filter_le (fun s => decide (∀ k, k < s → c k ≠ c s)) (List.range s)
  rwa [List.length_range] at this
theorem mTo_len (c : Nat → Nat) (s t : Nat) : (mTo c s t).length ≤ t := by
  unfold mTo
  have := List.length_filter_le (fun t => c t == c s) (List.range t)
  rwa [List.length_range] at this
theorem mTo_yes {c : Nat → Nat} {s t : Nat} (h : c t = c s) : intsOf (mTo c s (t + 1)) = intsOf (mTo c s t) ++ [(t : Int)] := by
  unfold mTo
  rw [List.range_succ, List.filter_append, List.filter_cons, if_pos (by simp [h]), List.filter_nil, intsOf_snoc]
theorem mTo_no {c : Nat → Nat} {s t : Nat} (h : c t ≠ c s) : intsOf (mTo c s (t + 1)) = intsOf (mTo c s t) := by
  unfold mTo
  rw [List.range_succ, List.filter_append, List.filter_cons, if_neg (by simp [h]), List.filter_nil, List.append_nil]
theorem parts_min (L : List (List Int)) : partsN L = classes (minAll (pairs L)) (deg L) := (classes_ker (minAll_ker (pairs L)) (deg L)).symm
end Cv
theorem Cv.parts_of {L : List (List Int)} (h : Cv.Perms L) : Cv.parts L = Mp.natRows (Cv.partsN L) := if_pos h
theorem Cv.parts_not {L : List (List Int)} (h : ¬ Cv.Perms L) : Cv.parts L = [] := if_neg h

set_option maxRecDepth 10000 in
theorem spec_l1MinG (x y : Int) (w : World) : Calls Tryz.prog 80 #[.int .i64 x, .int .i64 y] w fun e w' => e = .returned (.int .i64 (min x y)) ∧ w' = w := by
  by_cases h : x < y
  · rw [show min x y = x by omega]
    go_enter Tryz.func80, Tryz.ntmps80
    go_wp2
    go_ret
    exact ⟨rfl, rfl⟩
  · rw [show min x y = y by omega]
    go_enter Tryz.func80, Tryz.ntmps80
    go_wp2
    go_ret
    exact ⟨rfl, rfl⟩

set_option maxRecDepth 10000 in
set_option maxHeartbeats 4000000 in
theorem spec_l9Parts (a : Option Addr) (c : Nat) (L : List (List Int)) (w : World) (ha : GridAt w a L) (hP : Cv.Perms L) :
    Calls Tryz.prog 32 #[.slice a L.length c] w fun e w' => GivesRows w (Mp.natRows (Cv.partsN L)) e w' := by
  obtain ⟨i0, hi0, hz0, hz1, hz2⟩ := info_int_parts
  obtain ⟨j0, hj0, hy0, hy1, hy2⟩ := info_ints_parts
  have h5 := hP.2.2.2.2
  have h1 := hP.2.2.2.1
  have hl1 := hP.2.1
  have hl8 := hP.2.2.1
  have hown0 := own_made (w := w) rfl
  have hb0 := (Below.refl w.heap.size w).alloc (Nat.le_refl _) (.cells #[] 3)
  rw [Cv.parts_min]
  obtain ⟨r0, hr0, hr0l⟩ := Cv.head_get (L := L) (by omega)
  obtain ⟨b0, o0, a0, c0, rfl, hbw0, hcell0, _⟩ := ha.get hr0
  rw [Nat.add_zero, hr0l] at hcell0
  have i2 : 0 < L.length := by omega
  have hlt : ∀ q ∈ L, ∀ s, s < Cv.deg L → q[s]? = some ((Mp.at_ q s : Nat) : Int) ∧ Mp.at_ q s < Cv.deg L := fun q hq s hs => by
    obtain ⟨k1, k2⟩ := hP.1 q hq
    refine ⟨Mp.at_get k2 (by omega), ?_⟩
    have := Mp.at_lt k2 (d := s) (by omega); omega
  have hrl : ∀ q ∈ L, q.length = Cv.deg L := fun q hq => (hP.1 q hq).1
  obtain ⟨n, hn⟩ : ∃ n, n = Cv.deg L := ⟨_, rfl⟩
  rw [← hn] at hcell0 h5 h1 hlt hrl ⊢
  obtain ⟨R, hR⟩ : ∃ R, Cv.classes (Cv.minAll (Cv.pairs L)) n = R := ⟨_, rfl⟩
  rw [hR]
  generalize hN : w.heap.size = N at *
  have HN := Lib.hid hN
  have Hi0 := Lib.hid hi0; have Hz0 := Lib.hid hz0; have Hz1 := Lib.hid hz1; have Hz2 := Lib.hid hz2
  have Hj0 := Lib.hid hj0; have Hy0 := Lib.hid hy0; have Hy1 := Lib.hid hy1; have Hy2 := Lib.hid hy2
  have Hown0 := Lib.hid hown0; have Hb0 := Lib.hid hb0; have Ha := Lib.hid ha; have Hc0 := Lib.hid hcell0; have Hlt := Lib.hid hlt; have Hrl := Lib.hid hrl; have HR := Lib.hid hR
  have hrd0 : Hid (∀ W, Below N w W → W.cell? ⟨b0, o0, none⟩ = some (.slice a0 n c0)) := Lib.hid (fun W h => by rw [h.cell (p := ⟨b0, o0, none⟩) hbw0]; exact Hc0.out)
  clear hi0 hz0 hz1 hz2 hj0 hy0 hy1 hy2 hown0 hb0 ha hP hr0 hr0l hcell0 hlt hn hrl hR
  go_enter Tryz.func32, Tryz.ntmps32
  go_wp2
  go_loopw [3, 4] (fun ov iv wr => ∃ i : Nat, i ≤ n ∧ iv = .int .i64 i ∧ Hid (Below N w wr) ∧ wr.ownsRow N 3 1 ov i (intCells (Cls.row id i))) (fun _ iv _ => n - (intOf iv).toNat)
  case atStart => exact ⟨0, by omega, rfl, Hb0, Hown0.out⟩
  case round =>
    obtain ⟨i, hi, rfl, hb, hown⟩ := hrel
    have c1 := hrd0.out wr hb.out
    by_cases hlti : i < n
    · have hNle : N ≤ wr.heap.size := by have := hb.out.size; rw [HN.out] at this; exact this
      have Hst := Lib.hid (row_snoc id i)
      obtain ⟨av, cv, rfl⟩ := own_len hown
      have hm1 : i + 1 ≤ maxLen := by unfold maxLen; omega
      have hm2 : (i + 1) * 8 ≤ 140737488355328 := by omega
      generalize Cls.row id i = X at *
      go_wp2_with (at_builtin; refine append_one rfl (.tmp 22) (.tmp 24) 30 rfl N 3 i0 _ 8 Tryz.underlying30 Hi0.out Hz0.out Hz1.out Hz2.out (by rfl) _ _ _ rfl hown (by rfl) _ rfl hm1 hm2 hNle ?_; intro v1 w1 hown1 hg1 _)
      go_roundw
      case rel =>
        refine ⟨i + 1, by omega, by go_num, Lib.hid (Below.grown (hb.out.alloc hNle _) hg1 (by simp; omega) (fun k hk => (hown.lt k hk).1)), ?_⟩
        rw [← Hst.out, ← intCells_snoc]; exact hown1
      case measure => simp [intOf]; omega
    · obtain rfl : n = i := by omega
      obtain ⟨g, cap, rfl, hcap, hcm⟩ := own_form hown (by omega)
      have hgN := (hown.lt g rfl).1
      have Hlab := Lib.hid (ownRow_lab hown); have HgN := Lib.hid hgN
      clear hown hgN
      go_wp2
      clear c1
      go_loopw [5, 6, 7, 8] (fun iv _ _ _ wr => ∃ i : Nat, i ≤ L.length ∧ iv = .int .i64 i ∧ Hid (Below N w wr) ∧ Hid (∃ u d, Lab wr g u n ∧ Cls.Up u (Cv.minAll (met Cv.step1 L i 0)) d n)) (fun iv _ _ _ _ => L.length - (intOf iv).toNat)
      case atStart => exact ⟨0, by omega, rfl, hb, Lib.hid ⟨id, _, Hlab.out, Cls.Up.start _⟩⟩
      case round =>
        clear hb Hlab
        obtain ⟨k, hk, rfl, hb, hun⟩ := hrel
        by_cases hltk : k < L.length
        · obtain ⟨q, hq⟩ := get_some hltk
          have hql := Hrl.out q (get_mem hq)
          have hqa := Hlt.out q (get_mem hq)
          have hnx := met_next (f := Cv.step1) hq
          rw [hql] at hnx
          have hst := fun j => met_step (f := Cv.step1) j hq
          have Hnx := Lib.hid hnx; have Hst := Lib.hid hst; have Hqa := Lib.hid hqa; have Hq := Lib.hid hq; have Hql := Lib.hid hql
          clear hnx hst hqa hq hql
          go_wp2
          go_loopw [6, 7, 8] (fun jv _ _ wr => ∃ j : Nat, j ≤ n ∧ jv = .int .i64 j ∧ Hid (Below N w wr) ∧ Hid (∃ u d, Lab wr g u n ∧ Cls.Up u (Cv.minAll (met Cv.step1 L k j)) d n)) (fun jv _ _ _ => n - (intOf jv).toNat)
          case atStart => exact ⟨0, by omega, rfl, hb, hun⟩
          case round =>
            clear hb hun
            obtain ⟨j, hj, rfl, hb, hun⟩ := hrel
            by_cases hltj : j < n
            · obtain ⟨u, d, hlab, hup⟩ := hun.out
              obtain ⟨hqj, hyn⟩ := Hqa.out j hltj
              obtain ⟨b, o, ai, ci, e0, hbw, hcell, hrow⟩ := (Ha.out.below (by rw [HN.out]; exact hb.out)).get Hq.out
              cases e0
              rw [Hql.out] at hcell
              obtain ⟨b2, o2, rfl, hbw2, hcell2⟩ := intCells_get? hrow hqj
              obtain ⟨d', hup'⟩ := Cv.minlink hup hltj hyn
              rw [show Cv.minMerge (Cv.minAll (met Cv.step1 L k j)) (j, Mp.at_ q j) = Cv.minAll (met Cv.step1 L k (j + 1)) by rw [Hst.out j, Cv.minAll_snoc]; rfl] at hup'
              have hca := hup.ok.lt j hltj
              have hcb := hup.ok.lt _ hyn
              have hfx := fun W h => spec_l3Find (some ⟨g, 0, none⟩) cap n u _ d j (j : Int) rfl W h hup hltj (by omega)
              have hfy := fun W h => spec_l3Find (some ⟨g, 0, none⟩) cap n u _ d (Mp.at_ q j) ((Mp.at_ q j : Nat) : Int) rfl W h hup hyn (by omega)
              have Hup' := Lib.hid hup'
              clear hup' hup
              generalize Cv.minAll (met Cv.step1 L k j) j = x at *
              generalize Cv.minAll (met Cv.step1 L k j) (Mp.at_ q j) = y at *
              generalize Mp.at_ q j = z at *
              have hmx := fun W => spec_l1Max (x : Int) (y : Int) W
              have hmn := fun W => spec_l1MinG (x : Int) (y : Int) W
              rw [show max (x : Int) (y : Int) = ((max x y : Nat) : Int) by omega] at hmx
              rw [show min (x : Int) (y : Int) = ((min x y : Nat) : Int) by omega] at hmn
              have hmlt : max x y < n := by omega
              have hput := hlab.put (b := min x y) hmlt
              have hdst := hlab.cell hmlt
              have hfz := hlab.frozen (max x y)
              have hrowl := hlab.row
              generalize max x y = mx at *
              generalize min x y = mn at *
              have hc0 : (0 : Int) ≤ (mx : Int) := by omega
              have hc1 : (mx : Int) < (n : Int) := by omega
              have hi0 : (0 : Int) ≤ (k : Int) := by omega
              have hi1 : (k : Int) < (L.length : Int) := by omega
              have hj0' : (0 : Int) ≤ (j : Int) := by omega
              have hj1 : (j : Int) < (n : Int) := by omega
              have Hfx := Lib.hid hfx; have Hfy := Lib.hid hfy; have Hmx := Lib.hid hmx; have Hmn := Lib.hid hmn; have Hput := Lib.hid hput; have Hrow := Lib.hid hrowl
              clear hfx hfy hmx hmn hput hrowl hlab hqj hun hrow
              generalize u mx = um at hdst
              go_wp2_with fail
              refine (Hfx.out _ Hrow.out).mono ?_
              rintro e w2 ⟨rfl, hw2⟩
              rw [hw2]; clear hw2 w2
              go_wp2_with fail
              refine (Hfy.out _ Hrow.out).mono ?_
              rintro e w2 ⟨rfl, hw2⟩
              rw [hw2]; clear hw2 w2
              go_wp2_with fail
              refine (Hmx.out _).mono ?_
              rintro e w2 ⟨rfl, hw2⟩
              rw [hw2]; clear hw2 w2
              go_wp2_with fail
              refine (Hmn.out _).mono ?_
              rintro e w2 ⟨rfl, hw2⟩
              rw [hw2]; clear hw2 w2
              go_wp2
              go_roundw
              case rel => exact ⟨j + 1, by omega, by go_num, Lib.hid (hb.out.setCell HgN.out _), Lib.hid ⟨_, d', Hput.out, Hup'.out⟩⟩
              case measure => simp [intOf]; omega
            · obtain rfl : n = j := by omega
              rw [Hnx.out] at hun
              go_wp2
              go_roundw
              case rel => exact ⟨k + 1, by omega, by go_num, hb, hun⟩
              case measure => simp [intOf]; omega
        · obtain rfl : k = L.length := by omega
          rw [met_end] at hun
          obtain ⟨u, d, hlab, hup⟩ := hun.out
          have hle := Cv.minAll_le (Cv.pairs L)
          have hup2 : Cls.Up u (Cv.minAll (Cv.pairs L)) d n := hup
          generalize Cv.minAll (Cv.pairs L) = f at *
          have Hup := Lib.hid hup2; have Hlab := Lib.hid hlab; have Hle := Lib.hid hle
          obtain ⟨wo, rfl⟩ : ∃ wo : World, wo = wr := ⟨_, rfl⟩
          have hglt := hlab.lt
          have HNo : Hid (N ≤ wo.heap.size) := Lib.hid (by have := hb.out.size; rw [HN.out] at this; exact this)
          clear hun hlab hup hup2 hle
          go_wp2
          go_loopw [9, 10, 11, 12] (fun ov sv _ _ wr => ∃ s : Nat, s ≤ n ∧ sv = .int .i64 s ∧ Hid (RowsIn wo wo.heap.size wr ov (Mp.natRows (Cv.pTo f n s)))) (fun _ sv _ _ _ => n - (intOf sv).toNat)
          case atStart => exact ⟨0, by omega, rfl, Lib.hid (RowsIn.made (Below.refl _ _) (Nat.le_refl _))⟩
          case round =>
            obtain ⟨s, hs, rfl, hrows⟩ := hrel
            by_cases hlts : s < n
            · obtain ⟨hs0, e1, hown, hin, hap, hbl⟩ := hrows.out
              have hlabr := Hlab.out.below hbl hglt
              have hcs := hlabr.cell hlts
              have hroot := Hup.out.root s hlts
              have hfm := Cv.firsts_min (c := f) (n := n) (fun k _ => Hle.out k) (fun k hk => Hup.out.ok.idem k hk) hlts
              have hs0' : (0 : Int) ≤ (s : Int) := by omega
              have hs1 : (s : Int) < (n : Int) := by omega
              by_cases he : u s = s
              · have hfs := hroot.1 he
                have hne : ((u s : Int) != (s : Int)) = false := by simp [he]
                have Hyes := Lib.hid (Cv.pTo_yes (n := n) (hfm.2 hfs))
                have Hfs := Lib.hid hfs
                have Hlabr := Lib.hid hlabr; have He1 := Lib.hid e1; have Hown := Lib.hid hown; have Hin := Lib.hid hin; have Hap := Lib.hid hap; have Hbl := Lib.hid hbl
                have hwo := hbl.size
                generalize ((u s : Nat) : Int) = us at *
                clear hroot hfm he hfs hlabr e1 hown hin hap hbl
                obtain ⟨wi, rfl⟩ : ∃ wi : World, wi = wr := ⟨_, rfl⟩
                have Hmk := Lib.hid (own_made (w := wi) rfl)
                have hal := (Below.refl wi.heap.size wi).alloc (Nat.le_refl _) (.cells #[] 3)
                go_wp2
                go_loopw [11, 12] (fun pv tv w2 => ∃ t : Nat, t ≤ n ∧ tv = .int .i64 t ∧ Hid (Below wi.heap.size wi w2) ∧ w2.ownsRow wi.heap.size 3 1 pv (Cv.mTo f s t).length (intCells (intsOf (Cv.mTo f s t)))) (fun _ tv _ => n - (intOf tv).toNat)
                case atStart => exact ⟨0, by omega, rfl, Lib.hid hal, Hmk.out⟩
                case round =>
                  obtain ⟨t, ht, rfl, hb2, hown2⟩ := hrel
                  by_cases hltt : t < n
                  · have hfx := spec_l3Find (some ⟨g, 0, none⟩) cap n u f d t (t : Int) rfl wr (Hlabr.out.below hb2.out Hlabr.out.lt).row Hup.out hltt (by omega)
                    have hml := Cv.mTo_len f s t
                    have hNle : wi.heap.size ≤ wr.heap.size := hb2.out.size
                    obtain ⟨av, cv, rfl⟩ := own_len hown2
                    by_cases hft : f t = s
                    · have heq : (((f t : Nat) : Int) == (s : Int)) = true := by simp [hft]
                      have Hy := Lib.hid (Cv.mTo_yes (c := f) (s := s) (t := t) (by rw [hft, Hfs.out]))
                      generalize f t = ft at *
                      have hln : (Cv.mTo f s (t + 1)).length = (Cv.mTo f s t).length + 1 := by have := congrArg List.length Hy.out; simpa [intsOf] using this
                      have Hln := Lib.hid hln
                      have hm1 : (Cv.mTo f s t).length + 1 ≤ maxLen := by unfold maxLen; omega
                      have hm2 : ((Cv.mTo f s t).length + 1) * 8 ≤ 140737488355328 := by omega
                      have Hfx := Lib.hid hfx; have Hown2 := Lib.hid hown2
                      clear hfx hft hown2 hln
                      generalize (Cv.mTo f s t).length = ml at *
                      go_wp2_with fail
                      refine Hfx.out.mono ?_
                      rintro e w3 ⟨rfl, hw3⟩
                      rw [hw3]; clear hw3 w3
                      go_wp2_with (at_builtin; refine append_one rfl (.tmp 83) (.tmp 85) 30 rfl wi.heap.size 3 i0 _ 8 Tryz.underlying30 Hi0.out Hz0.out Hz1.out Hz2.out (by rfl) _ _ _ rfl Hown2.out (by rfl) _ rfl hm1 hm2 hNle ?_; intro v1 w1 hown1 hg1 _)
                      go_roundw
                      case rel =>
                        refine ⟨t + 1, by omega, by go_num, Lib.hid (Below.grown (hb2.out.alloc hNle _) hg1 (by simp; omega) (fun k hk => (Hown2.out.lt k hk).1)), ?_⟩
                        rw [Hln.out, Hy.out, ← intCells_snoc]; exact hown1
                      case measure => simp [intOf]; omega
                    · have heq : (((f t : Nat) : Int) == (s : Int)) = false := beq_eq_false_iff_ne.2 (by omega)
                      have hno := Cv.mTo_no (c := f) (s := s) (t := t) (by rw [Hfs.out]; exact hft)
                      have hln : (Cv.mTo f s (t + 1)).length = (Cv.mTo f s t).length := by have := congrArg List.length hno; simpa [intsOf] using this
                      have Hno := Lib.hid hno; have Hln := Lib.hid hln
                      generalize f t = ft at *
                      have Hfx := Lib.hid hfx
                      clear hfx hft hno hln
                      go_wp2_with fail
                      refine Hfx.out.mono ?_
                      rintro e w3 ⟨rfl, hw3⟩
                      rw [hw3]; clear hw3 w3
                      go_wp2
                      go_roundw
                      case rel => exact ⟨t + 1, by omega, by go_num, hb2, by rw [Hln.out, Hno.out]; exact hown2⟩
                      case measure => simp [intOf]; omega
                  · obtain rfl : n = t := by omega
                    obtain ⟨pa, pc, rfl, hpc, hfr⟩ := own_fresh hown2 (by rw [intCells_len, intsOf_len])
                    have hlen := Cv.pTo_len f n s
                    have hlp : (Mp.natRows (Cv.pTo f n s)).length = (Cv.pTo f n s).length := Mp.natRows_len _
                    have hown3 := own_keep Hown.out hb2.out (fun k hk => (Hown.out.lt k hk).2)
                    rw [hlp] at hown3
                    obtain ⟨ova, ovc, hov⟩ := own_len hown3
                    subst hov
                    have hm1 : (Cv.pTo f n s).length + 1 ≤ maxLen := by unfold maxLen; omega
                    have hm2 : ((Cv.pTo f n s).length + 1) * 24 ≤ 140737488355328 := by omega
                    have hN2 : wo.heap.size ≤ wr.heap.size := by have := hb2.out.size; omega
                    have Hfr := Lib.hid hfr; have Hpc := Lib.hid hpc; have Hlp := Lib.hid hlp; have Hown3 := Lib.hid hown3
                    have hil : (intsOf (Cv.mTo f s n)).length = (Cv.mTo f s n).length := intsOf_len _
                    have Hil := Lib.hid hil
                    clear hfr hpc hlp hown3 hown2 hlen hil
                    generalize hpl : (Cv.pTo f n s).length = pl at *
                    have Hpl := Lib.hid hpl
                    generalize hml : (Cv.mTo f s n).length = ml at *
                    have Hml := Lib.hid hml
                    clear hpl hml
                    go_wp2_with (at_builtin; refine append_one rfl (.tmp 87) (.tmp 89) 24 rfl wo.heap.size 30 j0 _ 24 Tryz.underlying24 Hj0.out Hy0.out Hy1.out Hy2.out (by rfl) _ _ _ rfl Hown3.out (by rfl) _ rfl hm1 hm2 hN2 ?_; intro v1 w1 hown1 hg1 _)
                    go_roundw
                    case rel =>
                      refine ⟨s + 1, by omega, by go_num, Lib.hid ?_⟩
                      rw [Hyes.out, Mp.natRows_snoc]
                      exact RowsIn.push (c := pc) (a := pa) (l := intsOf (Cv.mTo f s n)) He1.out Hown.out Hin.out Hap.out Hbl.out hwo hb2.out Hfr.out (by rw [Hil.out]; exact Hpc.out) (by rw [Hlp.out, Hil.out]; exact hown1) hg1
                    case measure => simp [intOf]; omega
              · have hfs : ¬ f s = s := fun h => he (hroot.2 h)
                have hne : ((u s : Int) != (s : Int)) = true := by simp; omega
                have Hno := Lib.hid (Cv.pTo_no (n := n) (fun h => hfs (hfm.1 h)))
                generalize ((u s : Nat) : Int) = us at *
                clear hroot hfm he hfs hlabr e1 hown hin hap hbl
                go_wp2
                go_roundw
                case rel => exact ⟨s + 1, by omega, by go_num, by rw [Hno.out]; exact hrows⟩
                case measure => simp [intOf]; omega
            · obtain rfl : n = s := by omega
              have hg := (hrows.out.gives).later (w := w) (by rw [HN.out]; exact hb.out)
              rw [Cv.pTo_end, HR.out] at hg
              have Hg := Lib.hid hg
              obtain ⟨oa, oc, e, _⟩ := hg
              cases e
              clear hrows
              go_wp2
              go_ret
              exact Hg.out
set_option maxRecDepth 10000 in
set_option maxHeartbeats 1000000 in
theorem spec_SheetParts (a : Option Addr) (c : Nat) (L : List (List Int)) (w : World) (ha : GridAt w a L) (hL : ∀ p ∈ L, p.length ≤ 1048576) (hn : L.length ≤ 1048576) :
    Calls Tryz.prog 22 #[.slice a L.length c] w fun e w' => GivesRows w (Cv.parts L) e w' := by
  have hcP := spec_l9Perms a c L w ha hL hn
  by_cases hP : Cv.Perms L
  · rw [decide_eq_true hP] at hcP
    rw [Cv.parts_of hP]
    have hc := fun W (hb : Below w.heap.size w W) => spec_l9Parts a c L W (ha.below hb) hP
    generalize Mp.natRows (Cv.partsN L) = R at *
    have HcP := Lib.hid hcP; have Hc := Lib.hid hc
    clear hcP hc ha hL hP
    go_enter Tryz.func22, Tryz.ntmps22
    go_wp2_with fail
    refine HcP.out.mono ?_
    rintro e w1 ⟨rfl, hb1⟩
    have Hb1 := Lib.hid hb1; clear hb1
    go_wp2_with fail
    refine (Hc.out _ Hb1.out).mono ?_
    rintro e w2 hg
    have Hg := Lib.hid (hg.later Hb1.out)
    obtain ⟨oa, oc, rfl, _⟩ := hg
    go_wp2
    go_ret
    exact Hg.out
  · rw [decide_eq_false hP] at hcP
    rw [Cv.parts_not hP]
    have HcP := Lib.hid hcP
    clear hcP ha hL hP
    go_enter Tryz.func22, Tryz.ntmps22
    go_wp2_with fail
    refine HcP.out.mono ?_
    rintro e w1 ⟨rfl, hb1⟩
    have Hb1 := Lib.hid hb1; clear hb1
    go_wp2
    go_ret
    exact GivesRows.none (Hb1.out.alloc Hb1.out.size _)
end Go.Proofs.YtamgimdjnmcpaaaGreat
namespace Go.Proofs.YtamgimdjnmcpaaaGreat
open Go.RowKit

theorem Blk.other {w : World} {a base n : Nat} {t e : TypeId} {cs : Array Value} {v : Value} {xs : List Value} (h : Blk w a t cs) (h' : w.ownsRow base e 1 v n xs) (ht : t ≠ e) : v.ownBlock ≠ some a := by
  intro hb
  obtain ⟨cur, hc⟩ := own_type h' a hb
  unfold Blk at h
  rw [h] at hc
  injection hc with hc; injection hc with _ hc _
  exact ht hc
/-- The rows hs lie in the block G as slices, each of the call's own, in a block of its own. -/
structure Bag (w : World) (N G : Nat) (hs : List Hd) : Prop where
  blk : Blk w G 30 (hdCells hs).toArray
  low : N ≤ G
  own : ∀ h ∈ hs, w.ownsRow N 3 1 h.val h.l.length (intCells h.l)
  apart : ∀ (i j : Nat) (h h' : Hd), i ≠ j → hs[i]? = some h → hs[j]? = some h' → ∀ b, h.val.ownBlock = some b → h'.val.ownBlock ≠ some b
theorem Bag.below {w w' : World} {N G : Nat} {hs : List Hd} (h : Bag w N G hs) (hb : Below w.heap.size w w') : Bag w' N G hs :=
  ⟨h.blk.below hb h.blk.lt, h.low, fun x hx => own_keep (h.own x hx) hb (fun k hk => ((h.own x hx).lt k hk).2), h.apart⟩
theorem Bag.cell {w : World} {N G i : Nat} {hs : List Hd} {x : Hd} (h : Bag w N G hs) (hx : hs[i]? = some x) : w.cell? ⟨G, i, none⟩ = some x.val := by
  obtain ⟨hi, rfl⟩ := List.getElem?_eq_some_iff.1 hx
  rw [h.blk.cell i, List.getElem?_toArray, hdCells_get hi]
theorem Bag.push {w w1 : World} {N G k : Nat} {v1 : Value} {hs : List Hd} {h : Hd} {x : Int} (hB : Bag w N G hs) (hk : hs[k]? = some h)
    (hown : w1.ownsRow N 3 1 v1 (h.l.length + 1) (intCells h.l ++ [.int .i64 x])) (hg : (w.alloc (.cells #[.int .i64 x] 3)).grownBy w1 h.val.ownBlock)
    (hn : v1.ownBlock = h.val.ownBlock ∨ v1.ownBlock = some (w.alloc (.cells #[.int .i64 x] 3)).heap.size) :
    ∃ h' : Hd, h'.l = h.l ++ [x] ∧ h'.val = v1 ∧ Bag (w1.setCell ⟨G, k, none⟩ v1) N G (hs.set k h') := by
  obtain ⟨a, c, rfl⟩ := own_len hown
  have hm := get_mem hk
  obtain ⟨hki, hke⟩ := List.getElem?_eq_some_iff.1 hk
  have hoh := hB.own h hm
  have hsz : (w.alloc (.cells #[.int .i64 x] 3)).heap.size = w.heap.size + 1 := by simp
  have hbk : Blk w1 G 30 (hdCells hs).toArray := (hB.blk.alloc _).grown hg (fun e => (hB.blk.other hoh (by decide)) e.symm)
  have hset : ∀ {v : Value} {n : Nat} {xs : List Value}, w1.ownsRow N 3 1 v n xs → (w1.setCell ⟨G, k, none⟩ (.slice a (h.l.length + 1) c)).ownsRow N 3 1 v n xs := fun {v n xs} ho =>
    own_grown ho (g := G) (only_setCell (World.grownBy.refl _ _) (Or.inl rfl) _) (fun b hb e => (hbk.other ho (by decide)) (by rw [hb, e]))
  refine ⟨⟨a, c, h.l ++ [x]⟩, rfl, by simp [Hd.val], ?_, hB.low, fun y hy => ?_, fun i j y y' hij hi hj b hb => ?_⟩
  · have := hbk.put k (.slice a (h.l.length + 1) c)
    rw [List.setIfInBounds_toArray] at this
    rw [show hdCells (hs.set k ⟨a, c, h.l ++ [x]⟩) = (hdCells hs).set k (.slice a (h.l.length + 1) c) from by simp [hdCells, List.map_set, Hd.val]]
    exact this
  · rcases List.mem_or_eq_of_mem_set hy with hy2 | rfl
    · by_cases hyy : y.val.ownBlock = none ∨ y.val.ownBlock ≠ h.val.ownBlock
      · exact hset (((hB.own y hy2).alloc _).kept hg hyy)
      · -- the same block: the same row
        have hy3 : y.val.ownBlock ≠ none ∧ y.val.ownBlock = h.val.ownBlock := by
          constructor
          · intro e; exact hyy (Or.inl e)
          · exact Classical.byContradiction fun e => hyy (Or.inr e)
        obtain ⟨b, hb⟩ : ∃ b, y.val.ownBlock = some b := by
          cases hq : y.val.ownBlock with
          | none => exact absurd hq hy3.1
          | some b => exact ⟨b, rfl⟩
        obtain ⟨j, hj, hje⟩ := List.mem_iff_getElem.1 hy
        rw [List.length_set] at hj
        by_cases hjk : k = j
        · subst hjk
          rw [List.getElem_set_self] at hje
          rw [← hje]
          show (w1.setCell _ _).ownsRow N _ 1 (Hd.val ⟨a, c, h.l ++ [x]⟩) _ _
          unfold Hd.val
          simp only [List.length_append, List.length_singleton]
          rw [← intCells_snoc]
          exact hset hown
        · rw [List.getElem_set_ne hjk] at hje
          exact absurd (hy3.2 ▸ hb) (hB.apart j k y h (Ne.symm hjk) (by rw [List.getElem?_eq_getElem hj, hje]) hk b hb)
    · show (w1.setCell _ _).ownsRow N _ 1 (Hd.val ⟨a, c, h.l ++ [x]⟩) _ _
      unfold Hd.val
      simp only [List.length_append, List.length_singleton]
      rw [← intCells_snoc]
      exact hset hown
  · have hvb : ∀ b', (Hd.val ⟨a, c, h.l ++ [x]⟩).ownBlock = some b' → h.val.ownBlock = some b' ∨ b' = w.heap.size + 1 := fun b' hb' => by
      have e : (Hd.val ⟨a, c, h.l ++ [x]⟩).ownBlock = (Value.slice a (h.l.length + 1) c).ownBlock := by simp [Hd.val]
      rw [e] at hb'
      rcases hn with e2 | e2
      · left; rw [← e2]; exact hb'
      · right; rw [e2] at hb'; have := Option.some.inj hb'; omega
    have hold : ∀ {z : Hd} {m b' : Nat}, hs[m]? = some z → z.val.ownBlock = some b' → b' < w.heap.size := fun hz hb' => ((hB.own _ (get_mem hz)).lt _ hb').2
    rw [List.getElem?_set] at hi hj
    by_cases h1 : k = i
    · rw [if_pos h1, if_pos (by omega)] at hi
      have e1 := Option.some.inj hi
      subst e1
      rw [if_neg (by omega)] at hj
      intro hb2
      rcases hvb b hb with h3 | h3
      · exact hB.apart k j h y' (by omega) hk hj b h3 hb2
      · have := hold hj hb2; omega
    · rw [if_neg h1] at hi
      by_cases h2 : k = j
      · rw [if_pos h2, if_pos (by omega)] at hj
        have e1 := Option.some.inj hj
        subst e1
        intro hb2
        rcases hvb b hb2 with h3 | h3
        · exact hB.apart i k y h (by omega) hi hk b hb h3
        · have := hold hi hb; omega
      · rw [if_neg h2] at hj
        exact hB.apart i j y y' hij hi hj b hb
/-- Some of the rows, as a grid. -/
theorem Bag.grid {w w' : World} {N G : Nat} {hs : List Hd} {all : Array Value} {p : Hd → Bool} (h : Bag w N G hs) (hg : w.grownBy w' (some G)) (hb : Blk w' G 30 all) (hc : ∀ (i : Nat) v, (hdCells (hs.filter p))[i]? = some v → all[i]? = some v) :
    GridIn w' N w'.heap.size (some ⟨G, 0, none⟩) ((hs.filter p).map Hd.l) := by
  have hown : ∀ x ∈ hs, w'.ownsRow N 3 1 x.val x.l.length (intCells x.l) := fun x hx =>
    own_grown (h.own x hx) hg (fun b hb e => (h.blk.other (h.own x hx) (by decide)) (by rw [hb, e]))
  refine ⟨hs.filter p, rfl, Or.inr ⟨G, 0, all, rfl, h.low, hb.lt, hb, fun i v hv => by rw [Nat.zero_add]; exact hc i v hv⟩, fun x hx => ?_, ?_, fun x hx => ?_⟩
  · have ho := hown x (List.mem_filter.1 hx).1
    obtain ⟨a, c, e, _, hf⟩ := own_fresh ho (by rw [intCells_len])
    have e2 : a = x.a := by unfold Hd.val at e; injection e with e _ _; exact e.symm
    rw [e2] at hf
    exact RowIn.of_fresh hf
  · refine List.Pairwise.sublist (List.filter_sublist) ?_
    rw [List.pairwise_iff_getElem]
    intro i j hi hj hij
    by_cases h1 : hs[i].l = []
    · exact Or.inl h1
    by_cases h2 : hs[j].l = []
    · exact Or.inr (Or.inl h2)
    right; right
    intro g o g' o' e1 e2
    have a1 := h.apart i j _ _ (by omega) (List.getElem?_eq_getElem hi) (List.getElem?_eq_getElem hj)
    have f1 := own_form (h.own _ (List.getElem_mem hi)) (by cases hq : hs[i].l with | nil => exact absurd hq h1 | cons _ _ => simp)
    have f2 := own_form (h.own _ (List.getElem_mem hj)) (by cases hq : hs[j].l with | nil => exact absurd hq h2 | cons _ _ => simp)
    obtain ⟨g1, c1, q1, _, _⟩ := f1
    obtain ⟨g2, c2, q2, _, _⟩ := f2
    have r1 : hs[i].a = some ⟨g1, 0, none⟩ := by unfold Hd.val at q1; injection q1
    have r2 : hs[j].a = some ⟨g2, 0, none⟩ := by unfold Hd.val at q2; injection q2
    rw [r1] at e1; rw [r2] at e2
    cases e1; cases e2
    rintro rfl
    exact a1 _ (by rw [q1]; rfl) (by rw [q2]; rfl)
  · obtain ⟨a, c, e, hc', _⟩ := own_fresh (h.own x (List.mem_filter.1 hx).1) (by rw [intCells_len])
    have e2 : c = x.c := by unfold Hd.val at e; injection e with _ _ e; exact e.symm
    omega
/-- Empty rows. -/
theorem Bag.start {w : World} {N n : Nat} (hN : N ≤ w.heap.size) : Bag (w.alloc (.cells (hdCells (List.replicate n ⟨none, 0, []⟩)).toArray 30)) N w.heap.size (List.replicate n ⟨none, 0, []⟩) := by
  refine ⟨Blk.new w _ _, hN, fun h hh => ?_, fun i j h h' _ hi _ b hb => ?_⟩
  · rw [List.eq_of_mem_replicate hh]; exact World.ownsRow_nil _ _ _ _
  · rw [List.eq_of_mem_replicate (get_mem hi)] at hb; cases hb

theorem Bag.os_setCells {g : Nat} : ∀ (vs : List Value) (w : World) (o : Nat), (w.setCells g o vs).os = w.os
  | [], _, _ => rfl
  | v :: r, w, o => by rw [World.setCells, Bag.os_setCells r]; rfl
theorem Bag.tape_setCells {g : Nat} : ∀ (vs : List Value) (w : World) (o : Nat), (w.setCells g o vs).tape = w.tape
  | [], _, _ => rfl
  | v :: r, w, o => by rw [World.setCells, Bag.tape_setCells r]; rfl
theorem Bag.output_setCells {g : Nat} : ∀ (vs : List Value) (w : World) (o : Nat), (w.setCells g o vs).output = w.output
  | [], _, _ => rfl
  | v :: r, w, o => by rw [World.setCells, Bag.output_setCells r]; rfl
set_option maxRecDepth 100000 in
theorem zero_ints : ∀ w : World, (zeroValue 30).run Tryz.prog w = .ok (.slice none 0 0) w := fun w => by kernel_rfl
set_option maxRecDepth 100000 in
theorem mk_rows (n : Nat) (h1 : n ≤ 1000) (w : World) : (Instr.makeSlice 24 (.int .i64 (n : Int)) (.int .i64 (n : Int))).run Tryz.prog w = .ok (.slice (some ⟨w.heap.size, 0, none⟩) n n) (w.alloc (.cells (hdCells (List.replicate n ⟨none, 0, []⟩)).toArray 30)) := by
  obtain ⟨i0, hi, hz0, hz1, hz2⟩ := info_ints_parts
  have h := run_make_rowN (P := Tryz.prog) 24 30 i0 _ Tryz.underlying24 hi hz0 .i64 .i64 n n (Nat.le_refl _) (by rw [hz2]; omega) (by omega) w
  have e : madeCells (Value.slice none 0 0).cells (n * i0.size) = (hdCells (List.replicate n ⟨none, 0, []⟩)).toArray := by
    rw [hz1, Nat.mul_one]
    show madeCells #[Value.slice none 0 0] n = _
    rw [made_one]
    simp [hdCells, Hd.val]
  rw [e] at h
  exact h

def Hd.some (h : Hd) : Bool := !h.l.isEmpty
set_option maxRecDepth 10000 in
theorem impl_empty1 (a : Option Addr) (n c : Nat) (w : World) :
    Calls Tryz.prog 53 #[.slice a n c] w fun e w' => e = .returned (.bool (decide (n = 0))) ∧ w' = w := by
  by_cases h : n = 0
  · have hb : ((n : Int) == 0) = true := beq_iff_eq.2 (by omega)
    rw [decide_eq_true h]
    go_enter Tryz.func53, Tryz.ntmps53
    go_wp2
    go_ret
    exact ⟨rfl, rfl⟩
  · have hb : ((n : Int) == 0) = false := beq_eq_false_iff_ne.2 (by omega)
    rw [decide_eq_false h]
    go_enter Tryz.func53, Tryz.ntmps53
    go_wp2
    go_ret
    exact ⟨rfl, rfl⟩
theorem Hd.some_len {h : Hd} : h.some = !decide (h.l.length = 0) := by
  unfold Hd.some; cases h.l <;> simp
set_option maxRecDepth 10000 in
set_option maxHeartbeats 1000000 in
/-- The first empty row, or none. -/
theorem lib_IndexEmpty (G cap : Nat) (hs : List Hd) (w : World) (hk : Blk w G 30 (hdCells hs).toArray) (hn : hs.length ≤ 1000) :
    Calls Tryz.prog 92 #[.slice (some ⟨G, 0, none⟩) hs.length cap, .func (.func 53) #[] #[]] w fun e w' =>
      (∃ z : Int, e = .returned (.int .i64 z) ∧ ((z = -1 ∧ hs.filter Hd.some = hs) ∨ ∃ k : Nat, z = (k : Int) ∧ k < hs.length ∧ (hs.take k).filter Hd.some = hs.take k ∧ ∃ h, hs[k]? = some h ∧ h.some = false)) ∧ w' = w := by
  have Hk := Lib.hid hk
  clear hk
  go_enter Tryz.func92, Tryz.ntmps92
  go_wp2
  go_loopw [5, 8] (fun _ iv wr => ∃ i : Nat, i ≤ hs.length ∧ iv = .int .i64 i ∧ Hid ((hs.take i).filter Hd.some = hs.take i) ∧ wr = w) (fun _ iv _ => hs.length - (intOf iv).toNat)
  case atStart => exact ⟨0, by omega, rfl, Lib.hid rfl, rfl⟩
  case round =>
    obtain ⟨i, hi, rfl, hall, rfl⟩ := hrel
    by_cases hlt : i < hs.length
    · obtain ⟨h, hh⟩ := get_some hlt
      have hcell : wr.cell? ⟨G, i, none⟩ = some (.slice h.a h.l.length h.c) := by
        obtain ⟨hi', rfl⟩ := List.getElem?_eq_some_iff.1 hh
        rw [Hk.out.cell i, List.getElem?_toArray, hdCells_get hi']; rfl
      have hcl := impl_empty1 h.a h.l.length h.c wr
      have hlt' : (i : Int) < (hs.length : Int) := by omega
      have Hh := Lib.hid hh; clear hh
      by_cases he : h.l.length = 0
      · rw [decide_eq_true he] at hcl
        have Hs := Lib.hid (show h.some = false by rw [Hd.some_len, decide_eq_true he]; rfl)
        have Hcl := Lib.hid hcl
        clear he hcl
        go_wp2_with fail
        refine Hcl.out.mono ?_
        rintro e w3 ⟨rfl, hw3⟩
        rw [hw3]; clear hw3 w3
        go_wp2
        go_ret
        exact ⟨⟨_, rfl, Or.inr ⟨i, rfl, hlt, hall.out, h, Hh.out, Hs.out⟩⟩, rfl⟩
      · rw [decide_eq_false he] at hcl
        have Hs := Lib.hid (show h.some = true by rw [Hd.some_len, decide_eq_false he]; rfl)
        have Hcl := Lib.hid hcl
        clear he hcl
        go_wp2_with fail
        refine Hcl.out.mono ?_
        rintro e w3 ⟨rfl, hw3⟩
        rw [hw3]; clear hw3 w3
        go_wp2
        go_roundw
        case rel => exact ⟨i + 1, by omega, by go_num, Lib.hid (by
          obtain ⟨hi', e⟩ := List.getElem?_eq_some_iff.1 Hh.out
          rw [List.take_succ_eq_append_getElem hi', List.filter_append, hall.out, e, List.filter_cons, if_pos Hs.out, List.filter_nil]), trivial⟩
        case measure => simp [intOf]; omega
    · obtain rfl : i = hs.length := by omega
      rw [List.take_of_length_le (Nat.le_refl _)] at hall
      go_wp2
      go_ret
      exact ⟨⟨_, rfl, Or.inl ⟨rfl, hall.out⟩⟩, rfl⟩
/-- Where j rows were looked at, i of them kept. -/
def Kept (hs : List Hd) (all : Array Value) (j : Nat) : Prop :=
  all.size = hs.length ∧ (∀ (t : Nat) v, (hdCells ((hs.take j).filter Hd.some))[t]? = some v → all[t]? = some v) ∧ ∀ (t : Nat) (h : Hd), j ≤ t → hs[t]? = some h → all[t]? = some h.val
theorem Kept.len (hs : List Hd) (j : Nat) : ((hs.take j).filter Hd.some).length ≤ j := by
  have h1 := List.length_filter_le Hd.some (hs.take j)
  rw [List.length_take] at h1; omega
theorem Kept.next {hs : List Hd} {all : Array Value} {j : Nat} {h : Hd} (hk : Kept hs all j) (hh : hs[j]? = some h) (hs' : h.some = true) :
    Kept hs (all.setIfInBounds ((hs.take j).filter Hd.some).length h.val) (j + 1) ∧ ((hs.take (j + 1)).filter Hd.some).length = ((hs.take j).filter Hd.some).length + 1 := by
  obtain ⟨hi, e⟩ := List.getElem?_eq_some_iff.1 hh
  have hf : (hs.take (j + 1)).filter Hd.some = (hs.take j).filter Hd.some ++ [h] := by
    rw [List.take_succ_eq_append_getElem hi, List.filter_append, e, List.filter_cons, if_pos hs', List.filter_nil]
  have hl := Kept.len hs j
  refine ⟨⟨by rw [Array.size_setIfInBounds]; exact hk.1, fun t v hv => ?_, fun t x ht hx => ?_⟩, by rw [hf, List.length_append]; rfl⟩
  · rw [hf, ← hdCells_snoc, List.getElem?_append, hdCells_len] at hv
    rw [Array.getElem?_setIfInBounds]
    by_cases h1 : t < ((hs.take j).filter Hd.some).length
    · rw [if_pos h1] at hv
      rw [if_neg (by omega)]; exact hk.2.1 t v hv
    · rw [if_neg h1] at hv
      by_cases h2 : ((hs.take j).filter Hd.some).length = t
      · rw [if_pos h2, if_pos (by rw [hk.1]; omega)]
        rw [show t - ((hs.take j).filter Hd.some).length = 0 by omega] at hv
        exact hv
      · have : t - ((hs.take j).filter Hd.some).length ≠ 0 := by omega
        obtain ⟨m, hm⟩ : ∃ m, t - ((hs.take j).filter Hd.some).length = m + 1 := ⟨_, (Nat.succ_pred_eq_of_ne_zero this).symm⟩
        rw [hm] at hv; simp at hv
  · rw [Array.getElem?_setIfInBounds, if_neg (by omega)]
    exact hk.2.2 t x (by omega) hx
theorem Kept.skip {hs : List Hd} {all : Array Value} {j : Nat} {h : Hd} (hk : Kept hs all j) (hh : hs[j]? = some h) (hs' : h.some = false) :
    Kept hs all (j + 1) ∧ ((hs.take (j + 1)).filter Hd.some).length = ((hs.take j).filter Hd.some).length := by
  obtain ⟨hi, e⟩ := List.getElem?_eq_some_iff.1 hh
  have hf : (hs.take (j + 1)).filter Hd.some = (hs.take j).filter Hd.some := by
    rw [List.take_succ_eq_append_getElem hi, List.filter_append, e, List.filter_cons, if_neg (by rw [hs']; decide), List.filter_nil, List.append_nil]
  exact ⟨⟨hk.1, by rw [hf]; exact hk.2.1, fun t x ht hx => hk.2.2 t x (by omega) hx⟩, by rw [hf]⟩
set_option maxRecDepth 10000 in
set_option maxHeartbeats 2000000 in
theorem lib_DeleteEmpty (G : Nat) (hs : List Hd) (w : World) (hk : Blk w G 30 (hdCells hs).toArray) (hn : hs.length ≤ 1000) :
    Calls Tryz.prog 52 #[.slice (some ⟨G, 0, none⟩) hs.length hs.length, .func (.func 53) #[] #[]] w fun e w' =>
      e = .returned (.slice (some ⟨G, 0, none⟩) (hs.filter Hd.some).length hs.length) ∧ w.grownBy w' (some G) ∧ ∃ all, Blk w' G 30 all ∧ ∀ (i : Nat) v, (hdCells (hs.filter Hd.some))[i]? = some v → all[i]? = some v := by
  have hI := lib_IndexEmpty G hs.length hs w hk hn
  have HI := Lib.hid hI; have Hk := Lib.hid hk
  clear hI hk
  go_enter Tryz.func52, Tryz.ntmps52
  go_wp2_with fail
  refine HI.out.mono ?_
  rintro e w1 ⟨⟨z, rfl, hz⟩, hw1⟩
  rw [hw1]; clear hw1 w1
  rcases hz with ⟨rfl, hall⟩ | ⟨k, rfl, hkl, htk, h0, hh0, hs0⟩
  · have Hall := Lib.hid hall
    clear hall
    go_wp2
    go_ret
    exact ⟨by rw [Hall.out]; rfl, World.grownBy.refl _ _, _, Hk.out, fun i v hv => by rw [Hall.out] at hv; rw [List.getElem?_toArray]; exact hv⟩
  · have hne : ((k : Int) == -1) = false := beq_eq_false_iff_ne.2 (by omega)
    have hst : Kept hs (hdCells hs).toArray k := by
      refine ⟨by simp [hdCells_len], fun t v hv => ?_, fun t h _ hh => ?_⟩
      · rw [htk, show hdCells (hs.take k) = (hdCells hs).take k from by simp [hdCells, List.map_take], List.getElem?_take] at hv
        split at hv
        · rw [List.getElem?_toArray]; exact hv
        · cases hv
      · obtain ⟨hi, rfl⟩ := List.getElem?_eq_some_iff.1 hh
        rw [List.getElem?_toArray, hdCells_get hi]
    obtain ⟨hst1, hln1⟩ := hst.skip hh0 hs0
    have hlk : ((hs.take k).filter Hd.some).length = k := by rw [htk, List.length_take]; omega
    rw [hlk] at hln1
    have Hst := Lib.hid hst1; have Hln := Lib.hid hln1
    clear htk hst hst1 hln1 hlk hh0 hs0 h0
    go_wp2
    go_loopw [5, 6, 7] (fun iv jv _ wr => ∃ j : Nat, k + 1 ≤ j ∧ j ≤ hs.length ∧ jv = .int .i64 j ∧ ∃ i : Nat, i < j ∧ iv = .int .i64 i ∧ Hid (i = ((hs.take j).filter Hd.some).length) ∧ Hid (w.grownBy wr (some G)) ∧ Hid (∃ all, Blk wr G 30 all ∧ Kept hs all j)) (fun _ jv _ _ => hs.length - (intOf jv).toNat)
    case atStart => exact ⟨k + 1, Nat.le_refl _, by omega, by go_num, k, by omega, rfl, Lib.hid Hln.out.symm, Lib.hid (World.grownBy.refl _ _), Lib.hid ⟨_, Hk.out, Hst.out⟩⟩
    case round =>
      obtain ⟨j, hkj, hj, rfl, i, hij, rfl, hil, hgr, hkp⟩ := hrel
      by_cases hlt : j < hs.length
      · obtain ⟨h, hh⟩ := get_some hlt
        obtain ⟨all, hb, hkp2⟩ := hkp.out
        have hcell : wr.cell? ⟨G, j, none⟩ = some (.slice h.a h.l.length h.c) := by rw [hb.cell j]; exact hkp2.2.2 j h (Nat.le_refl _) hh
        have hdst : ∃ v, wr.cell? ⟨G, i, none⟩ = some v := by
          rw [hb.cell i]
          exact ⟨_, Array.getElem?_eq_getElem (by rw [hkp2.1]; omega)⟩
        obtain ⟨v0, hdst⟩ := hdst
        have hfz := hb.frozen i
        have hcl := impl_empty1 h.a h.l.length h.c wr
        have hlt' : (j : Int) < (hs.length : Int) := by omega
        have hi0 : (0 : Int) ≤ (i : Int) := by omega
        have hi1 : (i : Int) < (hs.length : Int) := by omega
        by_cases he : h.l.length = 0
        · rw [decide_eq_true he] at hcl
          have hsm : h.some = false := by rw [Hd.some_len, decide_eq_true he]; rfl
          obtain ⟨hn1, hn2⟩ := hkp2.skip hh hsm
          have Hn1 := Lib.hid hn1; have Hn2 := Lib.hid hn2; have Hcl := Lib.hid hcl; have Hb := Lib.hid hb
          clear he hcl hn1 hn2 hsm hh hkp2 hb hkp
          go_wp2_with fail
          refine Hcl.out.mono ?_
          rintro e w3 ⟨rfl, hw3⟩
          rw [hw3]; clear hw3 w3
          go_wp2
          go_roundw
          case rel => exact ⟨j + 1, by omega, by omega, by go_num, i, by omega, rfl, Lib.hid (by rw [Hn2.out]; exact hil.out), hgr, Lib.hid ⟨all, Hb.out, Hn1.out⟩⟩
          case measure => simp [intOf]; omega
        · rw [decide_eq_false he] at hcl
          have hsm : h.some = true := by rw [Hd.some_len, decide_eq_false he]; rfl
          obtain ⟨hn1, hn2⟩ := hkp2.next hh hsm
          rw [← hil.out] at hn1 hn2
          have hput := hb.put i h.val
          have Hn1 := Lib.hid hn1; have Hn2 := Lib.hid hn2; have Hcl := Lib.hid hcl; have Hput := Lib.hid hput
          clear he hcl hn1 hn2 hsm hh hkp2 hb hkp hput
          go_wp2_with fail
          refine Hcl.out.mono ?_
          rintro e w3 ⟨rfl, hw3⟩
          rw [hw3]; clear hw3 w3
          go_wp2
          go_roundw
          case rel => exact ⟨j + 1, by omega, by omega, by go_num, i + 1, by omega, by go_num, Lib.hid Hn2.out.symm, Lib.hid (only_setCell hgr.out (Or.inl rfl) _), Lib.hid ⟨_, Hput.out, Hn1.out⟩⟩
          case measure => simp [intOf]; omega
      · have hje : j = hs.length := by omega
        obtain ⟨all, hb, hkp2⟩ := hkp.out
        rw [hje] at hkp2 hil
        rw [List.take_of_length_le (Nat.le_refl _)] at hil
        have hcs := hkp2.2.1
        rw [List.take_of_length_le (Nat.le_refl _)] at hcs
        have hsz := hkp2.1
        have hcl : ∀ ty, (Builtin.clear_ #[24] ty #[.slice (some ⟨G, i, none⟩) (hs.length - i) (hs.length - i)]).run Tryz.prog wr = .ok (.tuple #[]) (wr.setCells G i (List.replicate (hs.length - i) (.slice none 0 0))) :=
          fun ty => Lib.run_clear_slice _ _ _ ty _ Tryz.underlying24 zero_ints rfl rfl G i _ _ (by omega) (fun t ht => by
            rw [hb.cell, Array.getElem?_eq_getElem (by omega)]; rfl) (fun t ht => by rw [hb.frozen])
        have hb2 := Pt.blk (List.replicate (hs.length - i) (.slice none 0 0)) i hb
        have hg2 : w.grownBy (wr.setCells G i (List.replicate (hs.length - i) (.slice none 0 0))) (some G) :=
          ⟨by rw [Bag.os_setCells]; exact hgr.out.os, by rw [Bag.tape_setCells]; exact hgr.out.tape, by rw [Bag.output_setCells]; exact hgr.out.output, by rw [Pt.size]; exact hgr.out.size, fun q hq hne => by
            rw [Pt.far (fun e => hne (by rw [e]))]; exact hgr.out.block q hq hne⟩
        have hfin : ∀ (t : Nat) v, (hdCells (hs.filter Hd.some))[t]? = some v → (Pt.putAll all i (List.replicate (hs.length - i) (.slice none 0 0)))[t]? = some v := fun t v hv => by
          have ht := (List.getElem?_eq_some_iff.1 hv).1
          rw [hdCells_len, ← hil.out] at ht
          rw [Pt.putAll_get, if_neg (by omega)]
          exact hcs t v hv
        have hc1 : ¬ hs.length = i := by omega
        have hi0 : (0 : Int) ≤ (i : Int) := by omega
        have hi1 : (i : Int) ≤ (hs.length : Int) := by omega
        have hi2 : i ≤ hs.length := by omega
        have hlt' : ¬ (j : Int) < (hs.length : Int) := by omega
        have Hcl := Lib.hid hcl; have Hb2 := Lib.hid hb2; have Hg2 := Lib.hid hg2; have Hfin := Lib.hid hfin
        clear hb2 hg2 hfin hcs hsz hkp2 hb hkp hje hcl
        have hcl := Hcl.out
        go_wp2
        go_ret
        exact ⟨by rw [← hil.out]; rfl, Hg2.out, _, Hb2.out, Hfin.out⟩
end Go.Proofs.YtamgimdjnmcpaaaGreat
namespace Go.Proofs.YtamgimdjnmcpaaaGreat
open Go.RowKit

set_option maxRecDepth 10000 in
set_option maxHeartbeats 1000000 in
/-- Where a label stands first. -/
theorem lib_IndexLeast (a : Option Addr) (cap n s : Nat) (f : Nat → Nat) (w : World) (ha : RowAt w a (intCells (Cls.row f n))) (hs : s < n) (hn : n ≤ 1000) :
    Calls Tryz.prog 51 #[.slice a n cap, .int .i64 ((f s : Nat) : Int)] w fun e w' => e = .returned (.int .i64 ((Cv.leastOf f s : Nat) : Int)) ∧ w' = w := by
  have hcells : ∀ j, j < n → ∃ b o, a = some ⟨b, o, none⟩ ∧ w.cell? ⟨b, o + j, none⟩ = some (.int .i64 ((f j : Nat) : Int)) := fun j hj => by
    obtain ⟨b, o, e, _, hc⟩ := intCells_get? ha (Cls.row_get hj)
    exact ⟨b, o, e, hc⟩
  have Hcells := Lib.hid hcells
  obtain ⟨h1, h2, h3⟩ := Cv.leastOf_spec f s
  have hq : Cv.leastOf f s < n := by omega
  have H1 := Lib.hid h1; have H3 := Lib.hid h3
  generalize Cv.leastOf f s = q at *
  obtain ⟨x, hx⟩ : ∃ x, f s = x := ⟨_, rfl⟩
  rw [hx]
  have Hx := Lib.hid hx
  clear ha hcells h1 h3 hx
  go_enter Tryz.func51, Tryz.ntmps51
  go_wp2
  go_loopw [5, 8] (fun _ iv wr => ∃ i : Nat, i ≤ q ∧ iv = .int .i64 i ∧ wr = w) (fun _ iv _ => n - (intOf iv).toNat)
  case atStart => exact ⟨0, by omega, rfl, rfl⟩
  case round =>
    obtain ⟨i, hi, rfl, rfl⟩ := hrel
    have hlt : i < n := by omega
    obtain ⟨b, o, rfl, hcell⟩ := Hcells.out i hlt
    have hlti : (i : Int) < (n : Int) := by omega
    by_cases he : f i = x
    · have Hiq := Lib.hid (show i = q from by
        rcases Nat.lt_or_ge i q with h | h
        · exact absurd (he.trans Hx.out.symm) (H3.out i h)
        · omega)
      have heq : ((x : Int) == ((f i : Nat) : Int)) = true := by rw [he]; simp
      clear he
      generalize ((f i : Nat) : Int) = y at *
      go_wp2
      go_ret
      exact ⟨by rw [Hiq.out]; rfl, rfl⟩
    · have hne : i ≠ q := fun e => he (by rw [e]; exact H1.out.trans Hx.out)
      have heq : ((x : Int) == ((f i : Nat) : Int)) = false := beq_eq_false_iff_ne.2 (by omega)
      clear he
      generalize ((f i : Nat) : Int) = y at *
      go_wp2
      go_roundw
      case rel => exact ⟨i + 1, by omega, by go_num, trivial⟩
      case measure => simp [intOf]; omega

namespace Cv
theorem intsOf_filter_rows (c : Nat → Nat) (n : Nat) {hs : List Hd} (h : hs.map Hd.l = Mp.natRows (rowsTo c n n)) : (hs.filter Hd.some).map Hd.l = Mp.natRows (classes c n) := by
  rw [← filter_rows]
  unfold Mp.natRows at *
  have h1 : (hs.filter Hd.some).map Hd.l = (hs.map Hd.l).filter fun r => !r.isEmpty := by
    rw [List.filter_map]; rfl
  rw [h1, h, List.filter_map]
  congr 1
  refine List.filter_congr fun r _ => ?_
  show (!(r.map _).isEmpty) = !r.isEmpty
  cases r <;> rfl
theorem natRows_set (C : List (List Nat)) (k : Nat) (r : List Nat) : Mp.natRows (C.set k r) = (Mp.natRows C).set k (intsOf r) := by
  unfold Mp.natRows; rw [List.map_set]; rfl
theorem rowsTo_get {c : Nat → Nat} {n t k : Nat} (hk : k < n) : (rowsTo c n t)[k]? = some (rowAt c t k) := by
  unfold rowsTo; rw [List.getElem?_map, List.getElem?_range hk]; rfl
theorem rowAt_len (c : Nat → Nat) (t k : Nat) : (rowAt c t k).length ≤ t := by
  unfold rowAt
  have := List.length_filter_le (fun s => leastOf c s == k) (List.range t)
  rwa [List.length_range] at this
end Cv

set_option maxRecDepth 10000 in
set_option maxHeartbeats 4000000 in
theorem impl_SheetParts (a : Option Addr) (c : Nat) (L : List (List Int)) (w : World) (ha : GridAt w a L) (hL : ∀ p ∈ L, p.length ≤ 1048576) (hn : L.length ≤ 1048576) :
    Calls Tryz.prog 13 #[.slice a L.length c] w fun e w' => GivesRows w (Cv.parts L) e w' := by
  have hcP := impl_doPermute a c L w ha hL hn
  by_cases hP : Cv.Perms L
  · rw [decide_eq_true hP] at hcP
    rw [Cv.parts_of hP]
    obtain ⟨i0, hi0, hz0, hz1, hz2⟩ := info_int_parts
    have h5 := hP.2.2.2.2
    have h1 := hP.2.2.2.1
    have hl1 := hP.2.1
    have hl8 := hP.2.2.1
    obtain ⟨r0, hr0, hr0l⟩ := Cv.head_get (L := L) (by omega)
    obtain ⟨b0, o0, a0, c0, rfl, hbw0, hcell0, _⟩ := ha.get hr0
    rw [Nat.add_zero, hr0l] at hcell0
    have i2 : 0 < L.length := by omega
    have hlt : ∀ q ∈ L, ∀ s, s < Cv.deg L → q[s]? = some ((Mp.at_ q s : Nat) : Int) ∧ Mp.at_ q s < Cv.deg L := fun q hq s hs => by
      obtain ⟨k1, k2⟩ := hP.1 q hq
      refine ⟨Mp.at_get k2 (by omega), ?_⟩
      have := Mp.at_lt k2 (d := s) (by omega); omega
    have hrl : ∀ q ∈ L, q.length = Cv.deg L := fun q hq => (hP.1 q hq).1
    obtain ⟨R, hR⟩ : ∃ R, Mp.natRows (Cv.partsN L) = R := ⟨_, rfl⟩
    rw [hR]
    unfold Cv.partsN Cv.lab at hR
    obtain ⟨n, hn0⟩ : ∃ n, n = Cv.deg L := ⟨_, rfl⟩
    rw [← hn0] at hcell0 h5 h1 hlt hrl hR
    have Hi0 := Lib.hid hi0; have Hz0 := Lib.hid hz0; have Hz1 := Lib.hid hz1; have Hz2 := Lib.hid hz2
    have Ha := Lib.hid ha; have Hc0 := Lib.hid hcell0; have Hlt := Lib.hid hlt; have Hrl := Lib.hid hrl; have HR := Lib.hid hR; have HcP := Lib.hid hcP
    have Hmk := Lib.hid (fun W => mk_rows n (by omega) W)
    clear hi0 hz0 hz1 hz2 ha hP hr0 hr0l hcell0 hlt hn0 hrl hR hcP hL
    go_enter Tryz.func13, Tryz.ntmps13
    go_wp2_with fail
    refine HcP.out.mono ?_
    rintro e w1 ⟨rfl, hb1⟩
    have Hb1 := Lib.hid hb1; clear hb1
    have c1 : w1.cell? ⟨b0, o0, none⟩ = some (.slice a0 n c0) := by rw [Hb1.out.cell hbw0]; exact Hc0.out
    go_wp2_with fail
    refine (impl_newClasses n w1 (by omega)).mono ?_
    rintro e w3 ⟨rfl, hlab, hb3⟩
    have hlt3 := hlab.lt
    have Hlab := Lib.hid hlab; have Hb3 := Lib.hid (Hb1.out.trans (hb3.mono Hb1.out.size))
    have hNw : w.heap.size ≤ w1.heap.size := Hb1.out.size
    generalize w1.heap.size = g at *
    clear hlab hb3 c1
    go_wp2
    go_loopw [5, 6, 7, 22] (fun _ _ _ iv wr => ∃ i : Nat, i ≤ L.length ∧ iv = .int .i64 i ∧ Hid (Below w.heap.size w wr) ∧ Hid (Lab wr g (Cls.mergeAll (met Cv.step1 L i 0)) n)) (fun _ _ _ iv _ => L.length - (intOf iv).toNat)
    case atStart => exact ⟨0, by omega, rfl, Hb3, Lib.hid Hlab.out⟩
    case round =>
      clear Hb3 Hlab
      obtain ⟨k, hk, rfl, hb, hun⟩ := hrel
      by_cases hltk : k < L.length
      · obtain ⟨q, hq⟩ := get_some hltk
        have hql := Hrl.out q (get_mem hq)
        have hqa := Hlt.out q (get_mem hq)
        have hnx := met_next (f := Cv.step1) hq
        rw [hql] at hnx
        have hst := fun j => met_step (f := Cv.step1) j hq
        obtain ⟨b, o, ai, ci, e0, hbw, hcell0, hrow0⟩ := Ha.out.get hq
        cases e0
        rw [hql] at hcell0
        have hcell : wr.cell? ⟨b0, o0 + k, none⟩ = some (.slice ai n ci) := by rw [hb.out.cell hbw]; exact hcell0
        have Hnx := Lib.hid hnx; have Hst := Lib.hid hst; have Hqa := Lib.hid hqa; have Hql := Lib.hid hql
        have HrowA := Lib.hid hrow0
        clear hnx hst hqa hq hql hrow0 hcell0
        have h0k : (0 : Int) ≤ (k : Int) := by omega
        have h1k : (k : Int) < (L.length : Int) := by omega
        go_wp2
        go_loopw [6, 7, 28] (fun _ _ jv wr => ∃ j : Nat, j ≤ n ∧ jv = .int .i64 j ∧ Hid (Below w.heap.size w wr) ∧ Hid (Lab wr g (Cls.mergeAll (met Cv.step1 L k j)) n)) (fun _ _ jv _ => n - (intOf jv).toNat)
        case atStart => exact ⟨0, by omega, rfl, hb, hun⟩
        case round =>
          clear hb hun
          obtain ⟨j, hj, rfl, hb, hun⟩ := hrel
          by_cases hltj : j < n
          · obtain ⟨hqj, hyn⟩ := Hqa.out j hltj
            obtain ⟨b2, o2, rfl, hbw2, hcell2⟩ := intCells_get? (HrowA.out.below hb.out) hqj
            have hm := impl_mergeClasses g n n (Cls.mergeAll (met Cv.step1 L k j)) j (Mp.at_ q j) (j : Int) ((Mp.at_ q j : Nat) : Int) rfl rfl wr hun.out hltj hyn (by omega)
            rw [show Cls.merge (Cls.mergeAll (met Cv.step1 L k j)) (j, Mp.at_ q j) = Cls.mergeAll (met Cv.step1 L k (j + 1)) by rw [Hst.out j, Cls.mergeAll_snoc]; rfl] at hm
            have Hm := Lib.hid hm
            have hgl := hun.out.lt
            generalize Mp.at_ q j = z at *
            have hj0 : (0 : Int) ≤ (j : Int) := by omega
            have hj1 : (j : Int) < (n : Int) := by omega
            clear hm hqj
            go_wp2_with fail
            refine Hm.out.mono ?_
            rintro e w4 ⟨rfl, hl4, hg4⟩
            have Hb4 := Lib.hid (Below.grown hb.out hg4 hb.out.size (fun k hk => by cases hk; exact hNw))
            have Hl4 := Lib.hid hl4
            clear hl4 hg4
            go_wp2
            go_roundw
            case rel => exact ⟨j + 1, by omega, by go_num, Hb4, Hl4⟩
            case measure => simp [intOf]; omega
          · obtain rfl : n = j := by omega
            rw [Hnx.out] at hun
            go_wp2
            go_roundw
            case rel => exact ⟨k + 1, by omega, by go_num, hb, hun⟩
            case measure => simp [intOf]; omega
      · obtain rfl : k = L.length := by omega
        rw [met_end] at hun
        have hun2 : Lab wr g (Cls.mergeAll (Cv.pairs L)) n := hun.out
        generalize Cls.mergeAll (Cv.pairs L) = f at *
        have Hun := Lib.hid hun2
        obtain ⟨wo, rfl⟩ : ∃ wo : World, wo = wr := ⟨_, rfl⟩
        have hgl := hun2.lt
        have hmk := Hmk.out wo
        have hNo : w.heap.size ≤ wo.heap.size := hb.out.size
        have hbag := Bag.start (n := n) (Nat.le_refl wo.heap.size)
        have hal := hb.out.alloc hNo (.cells (hdCells (List.replicate n ⟨none, 0, []⟩)).toArray 30)
        have hwl := Hun.out.below ((Below.refl wo.heap.size wo).alloc (Nat.le_refl _) (.cells (hdCells (List.replicate n ⟨none, 0, []⟩)).toArray 30)) hgl
        obtain ⟨G, hG⟩ : ∃ G, G = wo.heap.size := ⟨_, rfl⟩
        rw [← hG] at hmk hbag hgl hNo
        have HG := Lib.hid hG; have Hbag := Lib.hid hbag; have Hal := Lib.hid hal; have Hwl := Lib.hid hwl
        clear hun hun2 hbag hal hwl hG
        go_wp2
        clear hmk
        go_loopw [9, 10, 11, 44] (fun _ _ _ tv wr => ∃ t : Nat, t ≤ n ∧ tv = .int .i64 t ∧ Hid (Below w.heap.size w wr) ∧ Hid (Lab wr g f n) ∧ ∃ hs : List Hd, Hid (hs.map Hd.l = Mp.natRows (Cv.rowsTo f n t)) ∧ Hid (Bag wr G G hs)) (fun _ _ _ tv _ => n - (intOf tv).toNat)
        case atStart => exact ⟨0, by omega, rfl, Hal, Hwl, _, Lib.hid (by rw [Cv.rowsTo_zero]; simp [Mp.natRows]), Hbag⟩
        case round =>
          obtain ⟨t, ht, rfl, hb2, hlab2, hs, hmap, hbag⟩ := hrel
          by_cases hltt : t < n
          · obtain ⟨hcl, hll, hsp⟩ := Cv.leastOf_spec f t
            have hct := hlab2.out.cell hltt
            have hix := lib_IndexLeast (some ⟨g, 0, none⟩) n n t f wr hlab2.out.row hltt (by omega)
            have hset := Cv.rowsTo_succ f n t
            have hkn : Cv.leastOf f t < n := by omega
            have hget := Cv.rowsTo_get (c := f) (t := t) hkn
            have hrl := Cv.rowAt_len f t (Cv.leastOf f t)
            generalize Cv.leastOf f t = k at *
            generalize Cv.rowAt f t k = r at *
            have hgm : (hs.map Hd.l)[k]? = some (intsOf r) := by rw [hmap.out]; unfold Mp.natRows; rw [List.getElem?_map, hget]; rfl
            rw [List.getElem?_map] at hgm
            obtain ⟨x, hx, hxl⟩ := Option.map_eq_some_iff.1 hgm
            have hxll : x.l.length = r.length := by rw [hxl, intsOf_len]
            have hcx := hbag.out.cell hx
            have hox := hbag.out.own x (get_mem hx)
            have hfz := hbag.out.blk.frozen k
            have hpush := fun (v1 : Value) (w1 : World) (h1 : w1.ownsRow G 3 1 v1 (x.l.length + 1) (intCells x.l ++ [.int .i64 (t : Int)])) (h2 : (wr.alloc (.cells #[.int .i64 (t : Int)] 3)).grownBy w1 (Value.slice x.a x.l.length x.c).ownBlock) (h3 : v1.ownBlock = (Value.slice x.a x.l.length x.c).ownBlock ∨ v1.ownBlock = some (wr.alloc (.cells #[.int .i64 (t : Int)] 3)).heap.size) => hbag.out.push hx h1 h2 h3
            have hGG := hbag.out.blk.lt
            have hbk := hbag.out.blk
            have hGo := hbk.other hox (by decide)
            have hm1 : x.l.length + 1 ≤ maxLen := by unfold maxLen; omega
            have hm2 : (x.l.length + 1) * 8 ≤ 140737488355328 := by omega
            have hN2 : G ≤ wr.heap.size := Nat.le_of_lt hGG
            have hnx : ∀ h' : Hd, h'.l = x.l ++ [(t : Int)] → (hs.set k h').map Hd.l = Mp.natRows (Cv.rowsTo f n (t + 1)) := fun h' e => by
              rw [hset, Cv.natRows_set, ← hmap.out, List.map_set, e, hxl, intsOf_snoc]
            have hlt2 : k < hs.length := (List.getElem?_eq_some_iff.1 hx).1
            have hval : x.val = .slice x.a x.l.length x.c := rfl
            have hdst : ∀ W, Blk W G 30 (hdCells hs).toArray → W.cell? ⟨G, k, none⟩ = some (.slice x.a x.l.length x.c) := fun W h => by rw [h.cell k, ← hbk.cell k]; exact hcx
            have Hdst := Lib.hid hdst
            clear hdst
            rw [hval] at hcx hox hGo
            have Hix := Lib.hid hix; have Hpush := Lib.hid hpush; have Hnx := Lib.hid hnx; have Hox := Lib.hid hox; have Hbk := Lib.hid hbk; have Hgo := Lib.hid hGo
            have k0 : (0 : Int) ≤ (k : Int) := by omega
            have k1 : (k : Int) < (n : Int) := by omega
            have t0 : (0 : Int) ≤ (t : Int) := by omega
            have t1 : (t : Int) < (n : Int) := by omega
            clear hix hpush hnx hox hbk hGo hset hget hgm hx hxl hcl hsp hval hmap hxll
            generalize x.l.length = xl at *
            go_wp2_with fail
            refine Hix.out.mono ?_
            rintro e w4 ⟨rfl, hw4⟩
            rw [hw4]; clear hw4 w4
            go_wp2_with (at_builtin; refine append_one_new rfl (.tmp 57) (.tmp 59) 30 rfl G 3 i0 _ 8 Tryz.underlying30 Hi0.out Hz0.out Hz1.out Hz2.out (by rfl) _ _ _ rfl Hox.out (by rfl) _ rfl hm1 hm2 hN2 ?_; intro v1 w1 hown1 hg1 hn1; obtain ⟨a1, c1, rfl⟩ := own_len hown1; have hbk1 := (Hbk.out.alloc (.cells #[.int .i64 (t : Int)] 3)).grown hg1 (fun e => Hgo.out e.symm); have hdst := Hdst.out w1 hbk1; have hfz1 := hbk1.frozen k; have Hown1 := Lib.hid hown1; have Hg1 := Lib.hid (show (wr.alloc (.cells #[.int .i64 (t : Int)] 3)).grownBy w1 (Value.slice x.a xl x.c).ownBlock from hg1); have Hn1 := Lib.hid (show (Value.slice a1 (xl + 1) c1).ownBlock = (Value.slice x.a xl x.c).ownBlock ∨ (Value.slice a1 (xl + 1) c1).ownBlock = some (wr.alloc (.cells #[.int .i64 (t : Int)] 3)).heap.size from hn1); clear hown1 hg1 hn1 hbk1)
            go_roundw
            case rel =>
              obtain ⟨h', e1, e2, hB⟩ := Hpush.out _ w1 Hown1.out Hg1.out Hn1.out
              refine ⟨t + 1, by omega, by go_num, Lib.hid (Below.setCell (Below.grown (hb2.out.alloc hb2.out.size _) Hg1.out (by have := hb2.out.size; simp; omega) (fun q hq => Nat.le_trans hNo (Hox.out.lt q hq).1)) hNo _), Lib.hid ?_, hs.set k h', Lib.hid (Hnx.out h' e1), Lib.hid hB⟩
              exact hlab2.out.below (((Below.refl G wr).alloc hN2 _ |>.grown Hg1.out (by simp; omega) (fun q hq => (Hox.out.lt q hq).1)).setCell (Nat.le_refl G) _) hgl
            case measure => simp [intOf]; omega
          · obtain rfl : n = t := by omega
            have hlen : hs.length = n := by have := congrArg List.length hmap.out; rw [List.length_map, Mp.natRows_len] at this; unfold Cv.rowsTo at this; simpa using this
            have hD := lib_DeleteEmpty G hs wr hbag.out.blk (by omega)
            rw [hlen] at hD
            have hfin := Cv.intsOf_filter_rows f n hmap.out
            rw [HR.out] at hfin
            have Hfin := Lib.hid hfin; have HD := Lib.hid hD
            have hRl : R.length = (hs.filter Hd.some).length := by rw [← Hfin.out, List.length_map]
            have hRn : R.length ≤ n := by rw [hRl, ← hlen]; exact List.length_filter_le _ _
            have HRl := Lib.hid hRl
            clear hD hfin hlen hRl
            go_wp2_with fail
            refine HD.out.mono ?_
            rintro e w5 ⟨rfl, hg5, all, hb5, hc5⟩
            have hgr := hbag.out.grid hg5 hb5 hc5
            rw [Hfin.out] at hgr
            have hbw := Below.grown hb2.out hg5 hb2.out.size (fun k hk => by cases hk; exact hNo)
            have Hgr := Lib.hid hgr; have Hbw := Lib.hid hbw
            clear hgr hbw hg5 hb5 hc5
            go_wp2
            go_ret
            exact ⟨_, n, by rw [HRl.out]; rfl, hRn, by unfold maxLen; omega, Hgr.out.mono hNo (Nat.le_refl _), Hbw.out⟩
  · rw [decide_eq_false hP] at hcP
    rw [Cv.parts_not hP]
    have HcP := Lib.hid hcP
    clear hcP hL hP ha
    go_enter Tryz.func13, Tryz.ntmps13
    go_wp2_with fail
    refine HcP.out.mono ?_
    rintro e w1 ⟨rfl, hb1⟩
    have Hb1 := Lib.hid hb1; clear hb1
    go_wp2
    go_ret
    exact GivesRows.none Hb1.out
end Go.Proofs.YtamgimdjnmcpaaaGreat
namespace Go.Proofs.YtamgimdjnmcpaaaGreat
open Go.RowKit

/-- Two rows lie in blocks of their own. -/
def Aprt (h h' : Hd) : Prop := ∀ b, h.val.ownBlock = some b → h'.val.ownBlock ≠ some b
theorem Aprt.symm {h h' : Hd} (a : Aprt h h') : Aprt h' h := fun b hb hb' => a b hb' hb
def Rws (w : World) (N : Nat) (hs : List Hd) : Prop := (∀ h ∈ hs, w.ownsRow N 3 1 h.val h.l.length (intCells h.l)) ∧ hs.Pairwise Aprt
def Hd.none : Hd := ⟨.none, 0, []⟩
theorem Hd.none_apart (h : Hd) : Aprt Hd.none h := fun b hb => by cases hb
section
variable {w w' : World} {N : Nat} {hs hs' : List Hd} {h : Hd}
theorem Rws.nil : Rws w N [] := ⟨fun _ h => (by cases h), List.Pairwise.nil⟩
theorem Rws.none (hr : Rws w N hs) : Rws w N (Hd.none :: hs) :=
  ⟨fun x hx => by
    rcases List.mem_cons.1 hx with rfl | hx
    · exact World.ownsRow_nil _ _ _ _
    · exact hr.1 x hx, List.pairwise_cons.2 ⟨fun x _ => Hd.none_apart x, hr.2⟩⟩
theorem Rws.perm (hr : Rws w N hs) (hp : hs.Perm hs') : Rws w N hs' :=
  ⟨fun x hx => hr.1 x (hp.mem_iff.2 hx), (hp.pairwise_iff (fun h => h.symm)).1 hr.2⟩
theorem Rws.tail (hr : Rws w N (h :: hs)) : Rws w N hs := ⟨fun x hx => hr.1 x (List.mem_cons_of_mem _ hx), (List.pairwise_cons.1 hr.2).2⟩
theorem Rws.head (hr : Rws w N (h :: hs)) : w.ownsRow N 3 1 h.val h.l.length (intCells h.l) := hr.1 h (List.mem_cons_self ..)
theorem Rws.swap {x y : Hd} (hr : Rws w N (x :: y :: hs)) : Rws w N (y :: x :: hs) := hr.perm (List.Perm.swap y x hs)
theorem Rws.below (hr : Rws w N hs) (hb : Below w.heap.size w w') : Rws w' N hs := ⟨fun x hx => own_keep (hr.1 x hx) hb (fun k hk => ((hr.1 x hx).lt k hk).2), hr.2⟩
theorem Rws.alloc (hr : Rws w N hs) (o : Obj) : Rws (w.alloc o) N hs := ⟨fun x hx => (hr.1 x hx).alloc o, hr.2⟩
/-- What has another type is none of the rows. -/
theorem Rws.grown {v : Value} {n M : Nat} {t : TypeId} {xs : List Value} (hr : Rws w N hs) (ho : w.ownsRow M t 1 v n xs) (ht : t ≠ 3) (hg : w.grownBy w' v.ownBlock) : Rws w' N hs := by
  refine ⟨fun x hx => (hr.1 x hx).kept hg ?_, hr.2⟩
  cases hb : v.ownBlock with
  | none =>
    cases hx2 : x.val.ownBlock with
    | none => exact Or.inl rfl
    | some k => right; intro e; cases e
  | some k =>
    right
    intro e
    obtain ⟨c1, h1⟩ := own_type ho k hb
    obtain ⟨c2, h2⟩ := own_type (hr.1 x hx) k e
    rw [h1] at h2
    injection h2 with h2; injection h2 with _ h2 _
    exact ht h2
theorem Rws.push {v1 : Value} {w1 : World} {x : Int} (hr : Rws w N (h :: hs))
    (hown : w1.ownsRow N 3 1 v1 (h.l.length + 1) (intCells h.l ++ [.int .i64 x])) (hg : (w.alloc (.cells #[.int .i64 x] 3)).grownBy w1 h.val.ownBlock)
    (hn : v1.ownBlock = h.val.ownBlock ∨ v1.ownBlock = some (w.alloc (.cells #[.int .i64 x] 3)).heap.size) :
    ∃ h' : Hd, h'.l = h.l ++ [x] ∧ h'.val = v1 ∧ Rws w1 N (h' :: hs) := by
  obtain ⟨a, c, rfl⟩ := own_len hown
  have hsz : (w.alloc (.cells #[.int .i64 x] 3)).heap.size = w.heap.size + 1 := by simp
  have hv : (⟨a, c, h.l ++ [x]⟩ : Hd).val = .slice a (h.l.length + 1) c := by simp [Hd.val]
  have hpw := List.pairwise_cons.1 hr.2
  refine ⟨⟨a, c, h.l ++ [x]⟩, rfl, hv, fun y hy => ?_, List.pairwise_cons.2 ⟨fun y hy b hb hb' => ?_, hpw.2⟩⟩
  · rcases List.mem_cons.1 hy with rfl | hy
    · rw [hv, List.length_append, ← intCells_snoc]; exact hown
    · refine ((hr.1 y (List.mem_cons_of_mem _ hy)).alloc _).kept hg ?_
      cases hb : y.val.ownBlock with
      | none => exact Or.inl rfl
      | some k => right; intro e; exact hpw.1 y hy k e.symm hb
  · rw [hv] at hb
    rcases hn with e | e
    · rw [e] at hb; exact hpw.1 y hy b hb hb'
    · rw [e] at hb
      have h1 := Option.some.inj hb
      have h2 := ((hr.1 y (List.mem_cons_of_mem _ hy)).lt b hb').2
      omega
/-- A row of one type stays while one of another type grows. -/
theorem own_types {v v2 : Value} {n n2 M M2 : Nat} {t t2 : TypeId} {xs xs2 : List Value} (h : w.ownsRow M t 1 v n xs) (h2 : w.ownsRow M2 t2 1 v2 n2 xs2) (ht : t ≠ t2) (hg : w.grownBy w' v2.ownBlock) : w'.ownsRow M t 1 v n xs := by
  refine h.kept hg ?_
  cases hb : v.ownBlock with
  | none => exact Or.inl rfl
  | some k =>
    right
    intro e
    obtain ⟨c1, h1⟩ := own_type h k hb
    obtain ⟨c2, h3⟩ := own_type h2 k e.symm
    rw [h1] at h3
    injection h3 with h3; injection h3 with _ h3 _
    exact ht h3
/-- The rows that a slice of the call's own holds. -/
theorem Rws.grid {v : Value} {M : Nat} (hr : Rws w N hs) (ho : w.ownsRow M 30 1 v hs.length (hdCells hs)) (hM : N ≤ M) : ∃ a c, v = .slice a hs.length c ∧ hs.length ≤ c ∧ c ≤ maxLen ∧ GridIn w N w.heap.size a (hs.map Hd.l) := by
  have hap : Apts hs := by
    refine ⟨?_, fun x hx => ?_⟩
    · rw [List.pairwise_iff_getElem]
      intro i j hi hj hij
      by_cases h1 : hs[i].l = []
      · exact Or.inl h1
      by_cases h2 : hs[j].l = []
      · exact Or.inr (Or.inl h2)
      right; right
      intro g o g' o' e1 e2
      have a1 := List.pairwise_iff_getElem.1 hr.2 i j hi hj hij
      obtain ⟨g1, c1, q1, _, _⟩ := own_form (hr.1 _ (List.getElem_mem hi)) (by cases hq : hs[i].l with | nil => exact absurd hq h1 | cons _ _ => simp)
      obtain ⟨g2, c2, q2, _, _⟩ := own_form (hr.1 _ (List.getElem_mem hj)) (by cases hq : hs[j].l with | nil => exact absurd hq h2 | cons _ _ => simp)
      have r1 : hs[i].a = some ⟨g1, 0, .none⟩ := by unfold Hd.val at q1; injection q1
      have r2 : hs[j].a = some ⟨g2, 0, .none⟩ := by unfold Hd.val at q2; injection q2
      rw [r1] at e1; rw [r2] at e2
      cases e1; cases e2
      rintro rfl
      exact a1 _ (by rw [q1]; rfl) (by rw [q2]; rfl)
    · obtain ⟨a, c, e, hc', _⟩ := own_fresh (hr.1 x hx) (by rw [intCells_len])
      have e2 : c = x.c := by unfold Hd.val at e; injection e with _ _ e; exact e.symm
      omega
  have hin : ∀ x ∈ hs, RowIn w N w.heap.size 3 x.a (intCells x.l) := fun x hx => by
    obtain ⟨a, c, e, _, hf⟩ := own_fresh (hr.1 x hx) (by rw [intCells_len])
    have e2 : a = x.a := by unfold Hd.val at e; injection e with e _ _; exact e.symm
    rw [e2] at hf
    exact RowIn.of_fresh hf
  exact grid_done (own_mono ho hM) rfl hin hap
theorem Rws.row (hr : Rws w N (h :: hs)) : ∃ a c, h.val = .slice a h.l.length c ∧ RowAt w a (intCells h.l) := own_row hr.head (by rw [intCells_len])
end
end Go.Proofs.YtamgimdjnmcpaaaGreat
namespace Go.Proofs.YtamgimdjnmcpaaaGreat
open Go.RowKit

set_option maxRecDepth 10000 in
set_option maxHeartbeats 1000000 in
theorem impl_follow (B n ci d : Nat) (ai : Option Addr) (f : Nat → Nat) (W : World) (hd : d < n) (c0 : W.cell? ⟨B, 0, none⟩ = some (.slice ai n ci)) (hr : RowAt W ai (intCells (Cls.row f n))) :
    Calls Tryz.prog 87 #[.int .i64 (d : Int), .pointer (some ⟨B, 0, none⟩)] W fun e W' => e = .returned (.int .i64 ((f d : Nat) : Int)) ∧ W' = W := by
  obtain ⟨b, o, rfl, hb, hc⟩ := intCells_get? hr (Cls.row_get hd)
  have h0 : (0 : Int) ≤ (d : Int) := by omega
  have h1 : (d : Int) < (n : Int) := by omega
  generalize ((f d : Nat) : Int) = v at *
  clear hr
  go_enter Tryz.func87, Tryz.ntmps87
  go_wp2
  go_ret
  exact ⟨rfl, rfl⟩

namespace Cv
theorem cycIn_take {f : Nat → Nat} {n i m : Nat} {ms : List Nat} (h : ms[i]? = some m) : cycIn f n (ms.take (i + 1)) = Mp.cycStep f n (cycIn f n (ms.take i)) m := by
  obtain ⟨hi, rfl⟩ := List.getElem?_eq_some_iff.1 h
  rw [List.take_succ_eq_append_getElem hi, cycIn_snoc]
theorem step_skip {f : Nat → Nat} {n m : Nat} {st : (Nat → Bool) × List (List Nat)} (h : Mp.cyc f (n + 1) st.1 m = []) : Mp.cycStep f n st m = st := by unfold Mp.cycStep; rw [if_pos h]
theorem step_more {f : Nat → Nat} {n m : Nat} {st : (Nat → Bool) × List (List Nat)} {c : List Nat} (h : Mp.cyc f (n + 1) st.1 m = c) (h0 : c ≠ []) : Mp.cycStep f n st m = (Mp.seen st.1 c, st.2 ++ [c]) := by
  unfold Mp.cycStep; rw [if_neg (by rw [h]; exact h0), h]
theorem cycIn_len (f : Nat → Nat) (n : Nat) (ms : List Nat) : (cycIn f n ms).2.length ≤ ms.length := by
  refine Cls.snoc_ind (p := fun ms => (cycIn f n ms).2.length ≤ ms.length) (Nat.le_refl _) (fun l m ih => ?_) ms
  rw [cycIn_snoc]
  by_cases h : Mp.cyc f (n + 1) (cycIn f n l).1 m = []
  · rw [step_skip h, List.length_append]; exact Nat.le_trans ih (by omega)
  · rw [step_more rfl h, List.length_append, List.length_append]; simp; omega
end Cv

set_option maxRecDepth 10000 in
set_option maxHeartbeats 4000000 in
theorem impl_cyclesAmong (am ai : Option Addr) (cm ci B n : Nat) (ms : List Nat) (f : Nat → Nat) (w : World) (hm : RowAt w am (intCells (intsOf ms))) (hB : B < w.heap.size) (c0 : w.cell? ⟨B, 0, none⟩ = some (.slice ai n ci)) (hr : RowAt w ai (intCells (Cls.row f n)))
    (hms : ∀ m ∈ ms, m < n) (hf : ∀ d, d < n → f d < n) (hn : n ≤ 24) (hl : ms.length ≤ 24) :
    Calls Tryz.prog 86 #[.slice am ms.length cm, .func (.func 87) #[] #[.pointer (some ⟨B, 0, none⟩)]] w fun e w' => GivesRows w (Mp.natRows (Cv.cycIn f n ms).2) e w' := by
  obtain ⟨i0, hi0, hz0, hz1, hz2⟩ := info_int_parts
  obtain ⟨j0, hj0, hy0, hy1, hy2⟩ := info_ints_parts
  have hfol := fun d W (hb : Below w.heap.size w W) (hd : d < n) => impl_follow B n ci d ai f W hd (by rw [hb.cell (p := ⟨B, 0, none⟩) hB]; exact c0) (hr.below hb)
  obtain ⟨R, hR⟩ : ∃ R, Mp.natRows (Cv.cycIn f n ms).2 = R := ⟨_, rfl⟩
  rw [hR]
  have Hi0 := Lib.hid hi0; have Hz0 := Lib.hid hz0; have Hz1 := Lib.hid hz1; have Hz2 := Lib.hid hz2
  have Hj0 := Lib.hid hj0; have Hy0 := Lib.hid hy0; have Hy1 := Lib.hid hy1; have Hy2 := Lib.hid hy2
  have Hm := Lib.hid hm; have Hms := Lib.hid hms; have Hf := Lib.hid hf; have Hfol := Lib.hid hfol; have HR := Lib.hid hR
  clear hi0 hz0 hz1 hz2 hj0 hy0 hy1 hy2 hm hms hf hfol hR c0 hr
  obtain ⟨N, hN⟩ : ∃ N, N = w.heap.size := ⟨_, rfl⟩
  have HN := Lib.hid hN
  rw [← hN] at Hfol
  clear hN
  go_enter Tryz.func86, Tryz.ntmps86
  go_wp2
  go_loopw [5, 6, 8, 9, 10, 13] (fun ov sv _ _ _ iv wr => ∃ i : Nat, i ≤ ms.length ∧ iv = .int .i64 i ∧ Hid (Below N w wr) ∧ ∃ (sh : Hd) (hs : List Hd) (sl : List Nat), sv = sh.val ∧ Hid (sh.l = intsOf sl) ∧ Hid (sl.length ≤ i * 24) ∧ Hid (∀ x, (Cv.cycIn f n (ms.take i)).1 x = decide (x ∈ sl)) ∧
      Hid (hs.map Hd.l = Mp.natRows (Cv.cycIn f n (ms.take i)).2) ∧ Hid (wr.ownsRow N 30 1 ov hs.length (hdCells hs)) ∧ Hid (Rws wr N (sh :: hs))) (fun _ _ _ _ _ iv _ => ms.length - (intOf iv).toNat)
  case atStart => exact ⟨0, by omega, rfl, Lib.hid (by rw [HN.out]; exact Below.refl _ _), Hd.none, [], [], rfl, Lib.hid rfl, Lib.hid (Nat.zero_le _), Lib.hid (fun x => by simp [Cv.cycIn]), Lib.hid rfl, Lib.hid (World.ownsRow_nil _ _ _ _), Lib.hid (Rws.nil.none)⟩
  case round =>
    obtain ⟨i, hi, rfl, hb, sh, hs, sl, rfl, hsl, hsn, hseen, hmap, hown, hrws⟩ := hrel
    by_cases hlt : i < ms.length
    · obtain ⟨m, hm⟩ := get_some hlt
      have hmn := Hms.out m (get_mem hm)
      obtain ⟨b, o, rfl, hbw, hcell⟩ := intCells_get? (Hm.out.below (by rw [← HN.out]; exact hb.out)) (intsOf_get hm)
      have htk := Cv.cycIn_take (f := f) (n := n) hm
      have hcl := Cv.cycIn_len f n (ms.take i)
      rw [List.length_take] at hcl
      have hhl : hs.length = (Cv.cycIn f n (ms.take i)).2.length := by have := congrArg List.length hmap.out; rwa [List.length_map, Mp.natRows_len] at this
      have hhs : hs.length ≤ 24 := by omega
      generalize hst : Cv.cycIn f n (ms.take i) = st at *
      have hsf : st.1 = fun x => decide (x ∈ sl) := funext hseen.out
      have Htk := Lib.hid htk; have Hst := Lib.hid hst; have Hsf := Lib.hid hsf
      have hNw : N ≤ wr.heap.size := by have := hb.out.size; have := HN.out; omega
      have hcell' : wr.cell? ⟨b, o + i, none⟩ = some (.int .i64 (m : Int)) := hcell
      clear htk hst hsf hcl hhl hm hcell
      obtain ⟨ova, ovc, rfl⟩ := own_len hown.out
      obtain ⟨wo, rfl⟩ : ∃ wo : World, wo = wr := ⟨_, rfl⟩
      have hmid := Mp.Mid.start f (fun x => decide (x ∈ sl)) hmn
      have Hmid := Lib.hid hmid
      have Hr0 := Lib.hid (show Rws wo N (Hd.none :: sh :: hs) from hrws.out.none)
      clear hmid hrws
      have hsnl := hsn.out
      go_wp2
      go_loopw [6, 9, 10] (fun sv cv dv wr => ∃ d : Nat, dv = .int .i64 d ∧ ∃ (cc : List Nat) (s2 c2 : Hd), sv = s2.val ∧ (∃ a c, cv = .slice a cc.length c) ∧ cv = c2.val ∧ Hid (s2.l = intsOf (sl ++ cc)) ∧ Hid (c2.l = intsOf cc) ∧ Hid (Mp.Mid f n (fun x => decide (x ∈ sl)) m cc d) ∧ Hid (Below N w wr) ∧ Hid (Rws wr N (c2 :: s2 :: hs)) ∧ Hid (wr.ownsRow N 30 1 (.slice ova hs.length ovc) hs.length (hdCells hs))) (fun _ cv _ _ => n + 1 - vLen cv)
      case atStart => exact ⟨m, rfl, [], sh, Hd.none, rfl, ⟨_, _, rfl⟩, rfl, Lib.hid (by rw [List.append_nil]; exact hsl.out), Lib.hid rfl, Hmid, hb, Hr0, hown⟩
      case round =>
        clear hb hown Hr0 Hmid hsl hcell'
        obtain ⟨d, rfl, cc, s2, c2, rfl, ⟨ca, ccp, hcv⟩, rfl, hs2, hc2, hmid, hb, hr, hown⟩ := hrel
        have hd := hmid.out.dlt
        have hccl := hmid.out.len
        obtain ⟨sa, sc, hse, hsr⟩ := hr.out.swap.row
        have hs2l : s2.l.length = sl.length + cc.length := by rw [hs2.out, intsOf_len, List.length_append]
        have hc2l : c2.l.length = cc.length := by rw [hc2.out, intsOf_len]
        have hcon := lib_Contains sa sc s2.l (d : Int) wr hsr (by rw [hs2l]; omega)
        have hseen2 : decide (((d : Nat) : Int) ∈ s2.l) = Mp.seen (fun x => decide (x ∈ sl)) cc d := by
          rw [hs2.out]
          unfold Mp.seen
          rw [Bool.eq_iff_iff, decide_eq_true_iff, Bool.or_eq_true, decide_eq_true_iff, decide_eq_true_iff, intsOf_mem, List.mem_append]
          exact Or.comm
        rw [hseen2] at hcon
        have hNw2 : N ≤ wr.heap.size := by have := hb.out.size; have := HN.out; omega
        by_cases hsd : Mp.seen (fun x => decide (x ∈ sl)) cc d = true
        · rw [hsd] at hcon
          have hstop := hmid.out.stop hsd
          have Hcon := Lib.hid hcon; have Hstop := Lib.hid hstop
          rw [hse]
          clear hcon hstop hseen2 hsd hsr
          by_cases hc0 : cc.length = 0
          · have hnil : cc = [] := List.eq_nil_of_length_eq_zero hc0
            have Hnil := Lib.hid hnil
            have hcv0 : c2.val = .slice ca 0 ccp := by rw [hcv, hc0]
            rw [hcv0]
            have Hse := Lib.hid hse
            clear hnil hc0 hcv hcv0 hs2l hc2l hse
            generalize s2.l.length = s2n at *
            go_wp2_with fail
            refine Hcon.out.mono ?_
            rintro e w3 ⟨rfl, hw3⟩
            rw [hw3]; clear hw3 w3
            go_wp2
            go_roundw
            case rel =>
              refine ⟨i + 1, by omega, by go_num, hb, s2, hs, sl, Hse.out.symm, Lib.hid (by rw [hs2.out, Hnil.out, List.append_nil]), Lib.hid (by omega), Lib.hid (fun x => ?_), Lib.hid ?_, hown, Lib.hid hr.out.tail⟩
              · rw [Htk.out, Cv.step_skip (by rw [Hsf.out, Hstop.out, Hnil.out]), Hsf.out]
              · rw [Htk.out, Cv.step_skip (by rw [Hsf.out, Hstop.out, Hnil.out])]; exact hmap.out
            case measure => simp [intOf]; omega
          · have hc1 : (0 : Int) < (cc.length : Int) := by omega
            have Hne := Lib.hid (show cc ≠ [] from fun e => hc0 (by rw [e]; rfl))
            have hm1 : hs.length + 1 ≤ maxLen := by unfold maxLen; omega
            have hm2 : (hs.length + 1) * 24 ≤ 140737488355328 := by omega
            have hca : c2.a = ca ∧ c2.c = ccp := by unfold Hd.val at hcv; injection hcv with h1 h2 h3; exact ⟨h1, h3⟩
            rw [hcv]
            have Hse := Lib.hid hse; have Hca := Lib.hid hca; have Hc2l := Lib.hid hc2l
            clear hc0 hcv hs2l hc2l hse hca
            generalize s2.l.length = s2n at *
            go_wp2_with fail
            refine Hcon.out.mono ?_
            rintro e w3 ⟨rfl, hw3⟩
            rw [hw3]; clear hw3 w3
            go_wp2_with (at_builtin; refine append_one rfl (.tmp 36) (.tmp 38) 24 rfl N 30 j0 _ 24 Tryz.underlying24 Hj0.out Hy0.out Hy1.out Hy2.out (by rfl) _ _ _ rfl hown.out (by rfl) _ rfl hm1 hm2 hNw2 ?_; intro v1 w1 hown1 hg1 _)
            go_roundw
            case rel =>
              have hvv : Value.slice ca cc.length ccp = c2.val := by unfold Hd.val; rw [Hca.out.1, Hca.out.2, Hc2l.out]
              have hg1' : (wr.alloc (.cells #[.slice ca cc.length ccp] 30)).grownBy w1 (Value.slice ova hs.length ovc).ownBlock := hg1
              have hr1 := (hr.out.alloc (.cells #[.slice ca cc.length ccp] 30)).grown (hown.out.alloc _) (by decide) hg1'
              refine ⟨i + 1, by omega, by go_num, Lib.hid (Below.grown (hb.out.alloc hNw2 _) hg1 (by simp; omega) (fun k hk => (hown.out.lt k hk).1)), s2, hs ++ [c2], sl ++ cc, Hse.out.symm, Lib.hid hs2.out, Lib.hid (by rw [List.length_append]; omega), Lib.hid (fun x => ?_), Lib.hid ?_, Lib.hid ?_, Lib.hid ?_⟩
              · rw [Htk.out, Cv.step_more (by rw [Hsf.out]; exact Hstop.out) Hne.out, Hsf.out]
                show Mp.seen (fun y => decide (y ∈ sl)) cc x = decide (x ∈ sl ++ cc)
                unfold Mp.seen
                rw [Bool.eq_iff_iff, decide_eq_true_iff, Bool.or_eq_true, decide_eq_true_iff, decide_eq_true_iff, List.mem_append]
                exact Or.comm
              · rw [Htk.out, Cv.step_more (by rw [Hsf.out]; exact Hstop.out) Hne.out, List.map_append, hmap.out, Mp.natRows_snoc]
                show _ ++ [c2.l] = _
                rw [hc2.out]
              · rw [← hdCells_snoc, List.length_append, ← hvv]; exact hown1
              · refine hr1.perm ?_
                refine (List.Perm.swap s2 c2 hs).trans ((List.perm_append_singleton c2 hs).symm.cons s2)
            case measure => simp [intOf]; omega
        · have hsd : Mp.seen (fun x => decide (x ∈ sl)) cc d = false := by simpa using hsd
          rw [hsd] at hcon
          have hstep := hmid.out.step hsd (Hf.out d hd)
          have Hcon := Lib.hid hcon; have Hstep := Lib.hid hstep
          have hos := hr.out.swap.head
          have hoc := hr.out.head
          rw [hse, hs2l] at hos
          rw [hcv, hc2l] at hoc
          have hpush := fun v1 w1 h1 h2 h3 => hr.out.swap.push (v1 := v1) (w1 := w1) (x := (d : Int)) h1 h2 h3
          rw [hse, hs2l] at hpush
          have hvs : s2.val = .slice sa (sl.length + cc.length) sc := by rw [hse, hs2l]
          rw [hs2l] at Hcon
          rw [hvs, hcv]
          have Hos := Lib.hid hos; have Hoc := Lib.hid hoc; have Hpush := Lib.hid hpush
          have hm1 : sl.length + cc.length + 1 ≤ maxLen := by unfold maxLen; omega
          have hm2 : (sl.length + cc.length + 1) * 8 ≤ 140737488355328 := by omega
          have hm3 : cc.length + 1 ≤ maxLen := by unfold maxLen; omega
          have hm4 : (cc.length + 1) * 8 ≤ 140737488355328 := by omega
          have Hcv := Lib.hid hcv; have Hc2l := Lib.hid hc2l
          clear hcon hstep hseen2 hsd hsr hse hs2l hos hoc hpush hvs hcv hc2l
          go_wp2_with fail
          refine Hcon.out.mono ?_
          rintro e w3 ⟨rfl, hw3⟩
          rw [hw3]; clear hw3 w3
          go_wp2_with (first
            | (at_builtin; refine append_one_new rfl (.tmp 25) (.tmp 27) 30 rfl N 3 i0 _ 8 Tryz.underlying30 Hi0.out Hz0.out Hz1.out Hz2.out (by rfl) _ _ _ rfl Hos.out (by rfl) _ rfl hm1 hm2 hNw2 ?_; intro v1 w1 hown1 hg1 hn1
               have hg1' : (wr.alloc (.cells #[.int .i64 (d : Int)] 3)).grownBy w1 (Value.slice sa (sl.length + cc.length) sc).ownBlock := hg1
               obtain ⟨s3, e1, rfl, hr3⟩ := Hpush.out v1 w1 hown1 hg1' hn1
               have hB1 := Below.grown (hb.out.alloc hNw2 _) hg1' (by simp; omega) (fun k hk => (Hos.out.lt k hk).1)
               have hN1 : N ≤ w1.heap.size := by have := hg1'.size; simp at this; omega
               have hoc1 := hr3.swap.head
               rw [Hcv.out, Hc2l.out] at hoc1
               have hpush1 := fun v2 w2 h1 h2 h3 => hr3.swap.push (v1 := v2) (w1 := w2) (x := (d : Int)) h1 h2 h3
               rw [Hcv.out, Hc2l.out] at hpush1
               have hown2 := own_types (hown.out.alloc (.cells #[.int .i64 (d : Int)] 3)) (Hos.out.alloc _) (by decide) hg1'
               have HB1 := Lib.hid hB1; have Hoc1 := Lib.hid hoc1; have Hpush1 := Lib.hid hpush1; have Hown2 := Lib.hid hown2; have He1 := Lib.hid e1
               clear hown1 hg1 hn1 hg1' hB1 hoc1 hpush1 hown2 e1 hr3)
            | (at_builtin; refine append_one_new rfl (.tmp 29) (.tmp 31) 30 rfl N 3 i0 _ 8 Tryz.underlying30 Hi0.out Hz0.out Hz1.out Hz2.out (by rfl) _ _ _ rfl Hoc1.out (by rfl) _ rfl hm3 hm4 hN1 ?_; intro v2 w2 hown3 hg3 hn3
               have hg3' : (w1.alloc (.cells #[.int .i64 (d : Int)] 3)).grownBy w2 (Value.slice ca cc.length ccp).ownBlock := hg3
               obtain ⟨c3, e3, rfl, hr4⟩ := Hpush1.out v2 w2 hown3 hg3' hn3
               have hB2 := Below.grown (HB1.out.alloc hN1 _) hg3' (by simp; omega) (fun k hk => (Hoc1.out.lt k hk).1)
               have hown4 := own_types (Hown2.out.alloc (.cells #[.int .i64 (d : Int)] 3)) (Hoc1.out.alloc _) (by decide) hg3'
               have HB2 := Lib.hid hB2; have Hown4 := Lib.hid hown4; have He3 := Lib.hid e3; have Hr4 := Lib.hid hr4
               clear hown3 hg3 hn3 hg3' hB2 hown4 e3 hr4)
            | (refine (Hfol.out d _ HB2.out hd).mono ?_
               rintro e w3 ⟨rfl, hw3⟩
               rw [hw3]; clear hw3 w3))
          go_roundw
          case rel => exact ⟨f d, rfl, cc ++ [d], s3, c3, rfl, ⟨c3.a, c3.c, by unfold Hd.val; rw [He3.out, hc2.out, List.length_append, intsOf_len, List.length_append]; rfl⟩, rfl, Lib.hid (by rw [He1.out, hs2.out, ← List.append_assoc, intsOf_snoc]), Lib.hid (by rw [He3.out, hc2.out, intsOf_snoc]), Hstep, HB2, Hr4, Hown4⟩
          case measure =>
            have : vLen c3.val = cc.length + 1 := by show c3.l.length = _; rw [He3.out, hc2.out, List.length_append, intsOf_len]; rfl
            rw [this]; simp [vLen]; omega
    · obtain rfl : i = ms.length := by omega
      rw [List.take_of_length_le (Nat.le_refl _)] at hmap
      obtain ⟨ga, gc, rfl, hgc, hgm, hgrid⟩ := hrws.out.tail.grid hown.out (Nat.le_refl _)
      rw [hmap.out, HR.out] at hgrid
      have hRl : hs.length = R.length := by rw [← HR.out, ← hmap.out, List.length_map]
      have Hgrid := Lib.hid hgrid; have HRl := Lib.hid hRl
      clear hgrid hRl
      generalize hs.length = hl' at *
      go_wp2
      go_ret
      refine ⟨ga, gc, by rw [← HRl.out]; rfl, by rw [← HRl.out]; exact hgc, hgm, by rw [← HN.out]; exact Hgrid.out, by rw [← HN.out]; exact hb.out⟩
set_option maxRecDepth 10000 in
set_option maxHeartbeats 1000000 in
theorem impl_sheetCycles (ai am : Option Addr) (ci cm n : Nat) (ms : List Nat) (f : Nat → Nat) (w : World) (hr : RowAt w ai (intCells (Cls.row f n))) (hm : RowAt w am (intCells (intsOf ms)))
    (hms : ∀ m ∈ ms, m < n) (hf : ∀ d, d < n → f d < n) (hn : n ≤ 24) (hl : ms.length ≤ 24) :
    Calls Tryz.prog 42 #[.slice ai n ci, .slice am ms.length cm] w fun e w' => GivesRows w (Mp.natRows (Cv.cycIn f n ms).2) e w' := by
  have hbA : Below w.heap.size w (w.alloc (.cells #[.slice ai n ci] 30)) := (Below.refl _ _).alloc (Nat.le_refl _) _
  have hK : Blk (w.alloc (.cells #[.slice ai n ci] 30)) w.heap.size 30 #[.slice ai n ci] := Blk.new w _ _
  have Hc := Lib.hid (impl_cyclesAmong am ai cm ci w.heap.size n ms f (w.alloc (.cells #[.slice ai n ci] 30)) (hm.below hbA) hK.lt (by rw [hK.cell 0]; rfl) (hr.below hbA) hms hf hn hl)
  have HA := Lib.hid hbA
  generalize Mp.natRows (Cv.cycIn f n ms).2 = R at *
  clear hr hm hms hf hbA hK
  go_enter Tryz.func42, Tryz.ntmps42
  go_wp2_with fail
  refine Hc.out.mono ?_
  rintro e w3 hg
  have Hg := Lib.hid (hg.later HA.out)
  obtain ⟨a, c, rfl, _⟩ := hg
  go_wp2
  go_ret
  exact Hg.out
end Go.Proofs.YtamgimdjnmcpaaaGreat
namespace Go.Proofs.YtamgimdjnmcpaaaGreat
open Go.RowKit

theorem Cv.row_cut {w : World} {b o c m : Nat} {l : List Int} (h : RowAt w (some ⟨b, o, none⟩) (intCells l)) (hm : m ≤ l.length) (hc : l.length ≤ c) : RowAt w (if c = m then some ⟨b, o, none⟩ else some ⟨b, o + m, none⟩) (intCells (l.drop m)) := by
  by_cases e : c = m
  · exact Or.inl (by rw [List.drop_eq_nil_of_le (by omega)]; rfl)
  · rw [if_neg e]
    rcases h with h | ⟨b', o', e', hlt, hc'⟩
    · left; have : l = [] := by simpa [intCells] using h
      rw [this]; simp [intCells]
    · cases e'
      refine Or.inr ⟨b, o + m, rfl, hlt, fun i v hv => ?_⟩
      rw [Nat.add_assoc]
      refine hc' (m + i) v ?_
      rw [show intCells (l.drop m) = (intCells l).drop m from by simp [intCells, List.map_drop], List.getElem?_drop] at hv
      exact hv
/-- From k on all are greater than x. -/
def Cv.Above (l : List Int) (x : Int) (k : Nat) : Prop := ∀ i v, k ≤ i → l[i]? = some v → x < v
theorem grown_trans {w w1 w2 : World} {r : Option Nat} (h : w.grownBy w1 r) (h' : w1.grownBy w2 r) : w.grownBy w2 r :=
  ⟨h'.os.trans h.os, h'.tape.trans h.tape, h'.output.trans h.output, Nat.le_trans h.size h'.size, fun k hk hne => (h'.block k (Nat.lt_of_lt_of_le hk h.size) hne).trans (h.block k hk hne)⟩
def Cv.Puts (N g : Nat) (l : List Int) (x : Int) (w : World) (e : Ending) (w' : World) : Prop :=
  ∃ g' cap' p, e = .returned (.slice (some ⟨g', 0, none⟩) (l.length + 1) cap') ∧ Cv.Cut l x p ∧ w'.ownsRow N 3 1 (.slice (some ⟨g', 0, none⟩) (l.length + 1) cap') (l.length + 1) (intCells (l.take p ++ [x] ++ l.drop p)) ∧ w.grownBy w' (some g) ∧ (g' = g ∨ w.heap.size ≤ g')
set_option maxRecDepth 10000 in
set_option maxHeartbeats 2000000 in
theorem spec_l9Put (N g cap : Nat) (l : List Int) (x : Int) (w : World) (hown : w.ownsRow N 3 1 (.slice (some ⟨g, 0, none⟩) l.length cap) l.length (intCells l)) (hN : N ≤ w.heap.size) (hl : l.length ≤ 1000) :
    Calls Tryz.prog 58 #[.slice (some ⟨g, 0, none⟩) l.length cap, .int .i64 x] w fun e w' => Cv.Puts N g l x w e w' := by
  obtain ⟨i0, hi0, hz0, hz1, hz2⟩ := info_int_parts
  have Hi0 := Lib.hid hi0; have Hz0 := Lib.hid hz0; have Hz1 := Lib.hid hz1; have Hz2 := Lib.hid hz2
  have hcap : l.length ≤ cap := by
    obtain ⟨a, c, e, hc, _⟩ := own_fresh hown (intCells_len l)
    cases e; exact hc
  have hglt := (hown.lt g rfl)
  have Hown := Lib.hid hown
  have Hrow := Lib.hid (show RowAt w (some ⟨g, 0, none⟩) (intCells l) from by
    obtain ⟨a, c, e, hr⟩ := own_row hown (intCells_len l)
    cases e; exact hr)
  clear hown hi0 hz0 hz1 hz2
  go_enter Tryz.func58, Tryz.ntmps58
  go_wp2
  go_loopw [5] (fun kv wr => ∃ k : Nat, k ≤ l.length ∧ kv = .int .i64 k ∧ Hid (Cv.Above l x k) ∧ wr = w) (fun kv _ => (intOf kv).toNat)
  case atStart => exact ⟨l.length, Nat.le_refl _, rfl, Lib.hid (fun i v h hv => absurd (List.getElem?_eq_some_iff.1 hv).1 (by omega)), rfl⟩
  case round =>
    obtain ⟨k, hk, rfl, hab, rfl⟩ := hrel
    have hend : (k = 0 ∨ ∀ v, l[k - 1]? = some v → v ≤ x) → Hid (Cv.Cut l x k) := fun h => Lib.hid ⟨hk, hab.out, h⟩
    by_cases hgo : 0 < k ∧ ∃ v, l[k - 1]? = some v ∧ x < v
    · obtain ⟨h0, y, hy, hxy⟩ := hgo
      obtain ⟨b, o, e0, hbw, hcell⟩ := intCells_get? Hrow.out hy
      cases e0
      rw [Nat.zero_add] at hcell
      have Hab := Lib.hid (show Cv.Above l x (k - 1) from fun i v hi hv => by
        rcases Nat.lt_or_ge i k with h | h
        · obtain rfl : i = k - 1 := by omega
          rw [hy] at hv; cases hv; exact hxy
        · exact hab.out i v h hv)
      obtain ⟨j, rfl⟩ : ∃ j, k = j + 1 := ⟨k - 1, by omega⟩
      rw [Nat.add_sub_cancel] at hcell Hab
      have d0 : (0 : Int) < ((j + 1 : Nat) : Int) := by omega
      have e1 : IntKind.i64.wrap (((j + 1 : Nat) : Int) - 1) = (j : Int) := by rw [wrap_small (by omega) (by omega)]; omega
      have e2 : (((j + 1 : Nat) : Int) - 1) = (j : Int) := by omega
      have j0 : (0 : Int) ≤ (j : Int) := by omega
      have j1 : (j : Int) < (l.length : Int) := by omega
      have dx : x < y := hxy
      clear hy hend h0
      generalize ((j + 1 : Nat) : Int) = z at *
      go_wp2
      go_roundw
      case rel => exact ⟨j, by omega, rfl, Hab, trivial⟩
      case measure => simp [intOf]; omega
    · have hcut := hend (by
        rcases Nat.eq_zero_or_pos k with h | h
        · exact Or.inl h
        · right; intro v hv
          have : ¬ x < v := fun hlt => hgo ⟨h, v, hv, hlt⟩
          omega)
      obtain ⟨A2, hA2⟩ : ∃ A2, (if cap = k then some (⟨g, 0, none⟩ : Addr) else some ⟨g, 0 + k, none⟩) = A2 := ⟨_, rfl⟩
      have hrA := Cv.row_cut (c := cap) (m := k) Hrow.out hk hcap
      rw [hA2] at hrA
      rw [Nat.zero_add] at hA2
      have HrA := Lib.hid hrA
      have hal : Below wr.heap.size wr (wr.alloc (.cells #[] 3)) := (Below.refl _ _).alloc (Nat.le_refl _) _
      have Hmk := Lib.hid (own_made (w := wr) rfl)
      have HrM := Lib.hid (HrA.out.below hal)
      have Hal := Lib.hid hal
      have hl2 : (intCells (l.drop k)).length = l.length - k := by rw [intCells_len, List.length_drop]
      have Hl2 := Lib.hid hl2
      have Htk := Lib.hid (show (intCells l).take k = intCells (l.take k) from intCells_take l k)
      have Htl := Lib.hid (show (l.take k).length = k by rw [List.length_take]; omega)
      have a7 : 0 + (l.length - k) ≤ maxLen := by unfold maxLen; omega
      have a8 : (0 + (l.length - k)) * 8 ≤ 140737488355328 := by omega
      have a3 : k + 1 ≤ maxLen := by unfold maxLen; omega
      have a4 : (k + 1) * 8 ≤ 140737488355328 := by omega
      have a5 : k + 1 + (l.length - k) ≤ maxLen := by unfold maxLen; omega
      have a6 : (k + 1 + (l.length - k)) * 8 ≤ 140737488355328 := by omega
      have hkc : (k : Int) ≤ (cap : Int) := by omega
      have hkl : (k : Int) ≤ (l.length : Int) := by omega
      have hk0 : (0 : Int) ≤ (k : Int) := by omega
      have hkc' : k ≤ cap := by omega
      clear hal hrA hl2 hend hab
      have HN := Lib.hid hN
      have htest : (k = 0) ∨ (0 < k ∧ ∃ (j : Nat) (y : Int), (k : Int) - 1 = (j : Int) ∧ j < l.length ∧ wr.cell? ⟨g, j, none⟩ = some (.int .i64 y) ∧ ¬ x < y) := by
        rcases Nat.eq_zero_or_pos k with h | h
        · exact Or.inl h
        · right
          obtain ⟨y, hy⟩ := get_some (show k - 1 < l.length by omega)
          obtain ⟨b, o, e0, hbw, hcell⟩ := intCells_get? Hrow.out hy
          cases e0
          rw [Nat.zero_add] at hcell
          exact ⟨h, k - 1, y, by omega, by omega, hcell, fun hlt => hgo ⟨h, y, hy, hlt⟩⟩
      clear hgo
      rcases htest with h0 | ⟨h0, j, y, e2, j1', hcell, dx⟩
      · have hq : ¬ (0 : Int) < (k : Int) := by omega
        clear h0
        go_wp2_with (first
          | (at_builtin; refine append_row rfl (.tmp 22) (.tmp 25) 30 rfl wr.heap.size 3 i0 _ 8 Tryz.underlying30 Hi0.out Hz0.out Hz1.out Hz2.out (by rfl) _ 0 (intCells []) rfl Hmk.out A2 (l.length - k) _ (intCells (l.drop k)) rfl HrM.out Hl2.out (intCells_one _) a7 a8 Hal.out.size ?_; intro v2 w2 hown2 hg2
             rw [Nat.zero_add] at hown2
             have hb2 := Below.grown Hal.out hg2 Hal.out.size (fun k hk => (Hmk.out.lt k hk).1)
             obtain ⟨ra, rc, rfl, hrr⟩ := own_row hown2 Hl2.out
             have hl' := own_take (own_keep Hown.out hb2 (fun k hk => (Hown.out.lt k hk).2)) hk
             rw [Htk.out] at hl'
             have Hb2 := Lib.hid hb2; have Hrest := Lib.hid (show w2.ownsRow wr.heap.size 3 1 (.slice ra (l.length - k) rc) (l.length - k) (intCells (l.drop k)) from hown2); have Hl' := Lib.hid hl'
             have hN2 : N ≤ w2.heap.size := Nat.le_trans HN.out hb2.size
             clear hown2 hg2 hb2 hrr hl')
          | (at_builtin; refine append_one_new rfl (.tmp 29) (.tmp 31) 30 rfl N 3 i0 _ 8 Tryz.underlying30 Hi0.out Hz0.out Hz1.out Hz2.out (by rfl) _ _ _ rfl Hl'.out (by rfl) _ rfl a3 a4 hN2 ?_; intro v3 w3 hown3 hg3 hn3
             have hg3' : (w2.alloc (.cells #[.int .i64 x] 3)).grownBy w3 (Value.slice (some ⟨g, 0, none⟩) k cap).ownBlock := hg3
             have hrest3 := (Hrest.out.alloc (.cells #[.int .i64 x] 3)).kept hg3' (by
               cases hq : (Value.slice ra (l.length - k) rc).ownBlock with
               | none => exact Or.inl rfl
               | some q =>
                 right
                 intro e
                 have h1 := (Hrest.out.lt q hq).1
                 have h2 : q = g := by have := Option.some.inj (e : some q = some g); exact this
                 omega)
             obtain ⟨ra', rc', e3, hrr3⟩ := own_row hrest3 Hl2.out
             cases e3
             have hG3 : wr.grownBy w3 (some g) := grown_trans (only_of_below (Hb2.out.alloc Hb2.out.size _) (some g)) hg3'
             have hz3 : wr.heap.size ≤ w3.heap.size := hG3.size
             have hn3' : v3.ownBlock = some g ∨ v3.ownBlock = some (w2.alloc (.cells #[.int .i64 x] 3)).heap.size := hn3
             have hz2 : wr.heap.size ≤ (w2.alloc (.cells #[.int .i64 x] 3)).heap.size := by have := Hb2.out.size; simp; omega
             have hn3'' : ∀ q, v3.ownBlock = some q → q = g ∨ wr.heap.size ≤ q := fun q hq => by
               rcases hn3' with e | e
               · left; rw [e] at hq; exact (Option.some.inj hq).symm
               · right; rw [e] at hq; have := Option.some.inj hq; omega
             have Hrr3 := Lib.hid hrr3; have Hown3 := Lib.hid hown3; have HG3 := Lib.hid hG3; have Hn3 := Lib.hid hn3''
             have hN3 : N ≤ w3.heap.size := by have := hg3'.size; simp at this; omega
             clear hown3 hg3 hg3' hrest3 hrr3 hG3 hn3 hn3' hn3'' hz2)
          | (at_builtin; refine append_row_new rfl (.tmp 32) (.tmp 33) 30 rfl N 3 i0 _ 8 Tryz.underlying30 Hi0.out Hz0.out Hz1.out Hz2.out (by rfl) _ _ _ rfl Hown3.out ra (l.length - k) _ (intCells (l.drop k)) rfl Hrr3.out Hl2.out (intCells_one _) a5 a6 hN3 ?_; intro v4 w4 hown4 hg4 hn4
             have hG4 : wr.grownBy w4 (some g) := ⟨hg4.os.trans HG3.out.os, hg4.tape.trans HG3.out.tape, hg4.output.trans HG3.out.output, Nat.le_trans HG3.out.size hg4.size, fun q hq hne => by
               refine (hg4.block q (Nat.lt_of_lt_of_le hq HG3.out.size) (fun e => ?_)).trans (HG3.out.block q hq hne)
               rcases Hn3.out q e.symm with h | h
               · exact hne (by rw [h])
               · omega⟩
             have hn4' : ∀ q, v4.ownBlock = some q → q = g ∨ wr.heap.size ≤ q := fun q hq => by
               rcases hn4 with e | e
               · rw [e] at hq; exact Hn3.out q hq
               · right; rw [e] at hq; have := Option.some.inj hq; omega
             rw [show k + 1 + (l.length - k) = l.length + 1 by omega] at hown4
             obtain ⟨g', cap', rfl, _, _⟩ := own_form hown4 (by omega)
             have Hown4 := Lib.hid hown4; have HG4 := Lib.hid hG4; have Hn4 := Lib.hid (hn4' g' rfl)
             clear hown4 hg4 hG4 hn4 hn4'))
        go_ret
        refine ⟨g', cap', k, rfl, hcut.out, ?_, HG4.out, Hn4.out⟩
        have h := Hown4.out
        rw [show intCells (l.take k) ++ [Value.int .i64 x] ++ intCells (l.drop k) = intCells (l.take k ++ [x] ++ l.drop k) from by simp [intCells]] at h
        exact h
      · have d0 : (0 : Int) < (k : Int) := by omega
        have e1 : IntKind.i64.wrap ((k : Int) - 1) = (j : Int) := by rw [wrap_small (by omega) (by omega)]; omega
        have j0 : (0 : Int) ≤ (j : Int) := by omega
        have j1 : (j : Int) < (l.length : Int) := by omega
        clear h0 j1'
        go_wp2_with (first
          | (at_builtin; refine append_row rfl (.tmp 22) (.tmp 25) 30 rfl wr.heap.size 3 i0 _ 8 Tryz.underlying30 Hi0.out Hz0.out Hz1.out Hz2.out (by rfl) _ 0 (intCells []) rfl Hmk.out A2 (l.length - k) _ (intCells (l.drop k)) rfl HrM.out Hl2.out (intCells_one _) a7 a8 Hal.out.size ?_; intro v2 w2 hown2 hg2
             rw [Nat.zero_add] at hown2
             have hb2 := Below.grown Hal.out hg2 Hal.out.size (fun k hk => (Hmk.out.lt k hk).1)
             obtain ⟨ra, rc, rfl, hrr⟩ := own_row hown2 Hl2.out
             have hl' := own_take (own_keep Hown.out hb2 (fun k hk => (Hown.out.lt k hk).2)) hk
             rw [Htk.out] at hl'
             have Hb2 := Lib.hid hb2; have Hrest := Lib.hid (show w2.ownsRow wr.heap.size 3 1 (.slice ra (l.length - k) rc) (l.length - k) (intCells (l.drop k)) from hown2); have Hl' := Lib.hid hl'
             have hN2 : N ≤ w2.heap.size := Nat.le_trans HN.out hb2.size
             clear hown2 hg2 hb2 hrr hl')
          | (at_builtin; refine append_one_new rfl (.tmp 29) (.tmp 31) 30 rfl N 3 i0 _ 8 Tryz.underlying30 Hi0.out Hz0.out Hz1.out Hz2.out (by rfl) _ _ _ rfl Hl'.out (by rfl) _ rfl a3 a4 hN2 ?_; intro v3 w3 hown3 hg3 hn3
             have hg3' : (w2.alloc (.cells #[.int .i64 x] 3)).grownBy w3 (Value.slice (some ⟨g, 0, none⟩) k cap).ownBlock := hg3
             have hrest3 := (Hrest.out.alloc (.cells #[.int .i64 x] 3)).kept hg3' (by
               cases hq : (Value.slice ra (l.length - k) rc).ownBlock with
               | none => exact Or.inl rfl
               | some q =>
                 right
                 intro e
                 have h1 := (Hrest.out.lt q hq).1
                 have h2 : q = g := by have := Option.some.inj (e : some q = some g); exact this
                 omega)
             obtain ⟨ra', rc', e3, hrr3⟩ := own_row hrest3 Hl2.out
             cases e3
             have hG3 : wr.grownBy w3 (some g) := grown_trans (only_of_below (Hb2.out.alloc Hb2.out.size _) (some g)) hg3'
             have hz3 : wr.heap.size ≤ w3.heap.size := hG3.size
             have hn3' : v3.ownBlock = some g ∨ v3.ownBlock = some (w2.alloc (.cells #[.int .i64 x] 3)).heap.size := hn3
             have hz2 : wr.heap.size ≤ (w2.alloc (.cells #[.int .i64 x] 3)).heap.size := by have := Hb2.out.size; simp; omega
             have hn3'' : ∀ q, v3.ownBlock = some q → q = g ∨ wr.heap.size ≤ q := fun q hq => by
               rcases hn3' with e | e
               · left; rw [e] at hq; exact (Option.some.inj hq).symm
               · right; rw [e] at hq; have := Option.some.inj hq; omega
             have Hrr3 := Lib.hid hrr3; have Hown3 := Lib.hid hown3; have HG3 := Lib.hid hG3; have Hn3 := Lib.hid hn3''
             have hN3 : N ≤ w3.heap.size := by have := hg3'.size; simp at this; omega
             clear hown3 hg3 hg3' hrest3 hrr3 hG3 hn3 hn3' hn3'' hz2)
          | (at_builtin; refine append_row_new rfl (.tmp 32) (.tmp 33) 30 rfl N 3 i0 _ 8 Tryz.underlying30 Hi0.out Hz0.out Hz1.out Hz2.out (by rfl) _ _ _ rfl Hown3.out ra (l.length - k) _ (intCells (l.drop k)) rfl Hrr3.out Hl2.out (intCells_one _) a5 a6 hN3 ?_; intro v4 w4 hown4 hg4 hn4
             have hG4 : wr.grownBy w4 (some g) := ⟨hg4.os.trans HG3.out.os, hg4.tape.trans HG3.out.tape, hg4.output.trans HG3.out.output, Nat.le_trans HG3.out.size hg4.size, fun q hq hne => by
               refine (hg4.block q (Nat.lt_of_lt_of_le hq HG3.out.size) (fun e => ?_)).trans (HG3.out.block q hq hne)
               rcases Hn3.out q e.symm with h | h
               · exact hne (by rw [h])
               · omega⟩
             have hn4' : ∀ q, v4.ownBlock = some q → q = g ∨ wr.heap.size ≤ q := fun q hq => by
               rcases hn4 with e | e
               · rw [e] at hq; exact Hn3.out q hq
               · right; rw [e] at hq; have := Option.some.inj hq; omega
             rw [show k + 1 + (l.length - k) = l.length + 1 by omega] at hown4
             obtain ⟨g', cap', rfl, _, _⟩ := own_form hown4 (by omega)
             have Hown4 := Lib.hid hown4; have HG4 := Lib.hid hG4; have Hn4 := Lib.hid (hn4' g' rfl)
             clear hown4 hg4 hG4 hn4 hn4'))
        go_ret
        refine ⟨g', cap', k, rfl, hcut.out, ?_, HG4.out, Hn4.out⟩
        have h := Hown4.out
        rw [show intCells (l.take k) ++ [Value.int .i64 x] ++ intCells (l.drop k) = intCells (l.take k ++ [x] ++ l.drop k) from by simp [intCells]] at h
        exact h

namespace Cv
theorem actW_isP (L : List (List Int)) (w : List Int) : Mp.IsP (actW L w) := by
  unfold actW
  split
  · rename_i h; exact row_isP h
  · exact ⟨fun x h => (by cases h), List.nodup_nil⟩
theorem lifts_eq (L : List (List Int)) (w : List Int) : lifts L w = ((Mp.cycles (actW L w)).map fun r => (r.length : Int)).mergeSort := by
  unfold lifts actW
  split
  · rename_i h
    rw [cycles_row h]
    congr 1
    unfold Mp.natRows
    rw [List.map_map]
    exact List.map_congr_left fun c _ => by simp
  · rw [show Mp.cycles [] = [] from rfl]; simp
theorem cycles_few (L : List (List Int)) (w : List Int) : (Mp.cycles (actW L w)).length ≤ 5 := by
  have := lifts_len L w
  rw [lifts_eq, List.length_mergeSort, List.length_map] at this
  exact this
end Cv
theorem Cv.actW_len5 (L : List (List Int)) (w : List Int) : (Cv.actW L w).length ≤ 5 := by
  unfold Cv.actW
  split
  · rename_i h; rw [Cv.row_len]; exact h.1.2.2.2.2
  · simp
set_option maxRecDepth 10000 in
set_option maxHeartbeats 2000000 in
theorem spec_LiftLengths (a aw : Option Addr) (c cw : Nat) (L : List (List Int)) (l : List Int) (w : World) (ha : GridAt w a L) (hL : ∀ p ∈ L, p.length ≤ 1048576) (hn : L.length ≤ 1048576) (haw : RowAt w aw (intCells l)) (hl : l.length ≤ 1048576) :
    Calls Tryz.prog 17 #[.slice a L.length c, .slice aw l.length cw] w fun e w' => Gives w (Cv.lifts L l) e w' := by
  have hbA : Below w.heap.size w (w.alloc (.cells #[] 3)) := (Below.refl _ _).alloc (Nat.le_refl _) _
  have hA := spec_ActWord a aw c cw L l (w.alloc (.cells #[] 3)) (ha.below hbA) hL hn (haw.below hbA) hl
  have hC := fun ra rc W (h : RowAt W ra (intCells (Cv.actW L l))) => spec_l6CyclesP ra rc (Cv.actW L l) W h (Cv.actW_isP L l) (Nat.le_trans (Cv.actW_len5 L l) (by decide))
  rw [Cv.lifts_eq]
  have hfew := Cv.cycles_few L l
  generalize Mp.cycles (Cv.actW L l) = C at *
  generalize Cv.actW L l = A at *
  have hmk := own_made (w := w) rfl
  have Hmk := Lib.hid hmk; have HA := Lib.hid hA; have HC := Lib.hid hC; have HbA := Lib.hid hbA
  clear hA hC hbA ha haw hL hmk
  go_enter Tryz.func17, Tryz.ntmps17
  go_wp2_with fail
  refine HA.out.mono ?_
  rintro e w1 ⟨ra, rc, rfl, _, _, hf1, hb1⟩
  have Hf1 := Lib.hid hf1.row
  have hm1 := own_keep Hmk.out hb1 (fun k hk => (Hmk.out.lt k hk).2)
  have Hb1 := Lib.hid (HbA.out.trans (hb1.mono HbA.out.size)); have Hm1 := Lib.hid hm1
  clear hf1 hb1 hm1
  go_wp2_with fail
  refine (HC.out ra rc w1 Hf1.out).mono ?_
  rintro e w2 ⟨ca, cc, rfl, _, _, hg2, hb2⟩
  have hm2 := own_keep Hm1.out hb2 (fun k hk => (Hm1.out.lt k hk).2)
  have Hb2 := Lib.hid (Hb1.out.trans (hb2.mono Hb1.out.size)); have Hg2 := Lib.hid hg2
  have Hm2 := Lib.hid (show w2.ownsRow w.heap.size 3 1 (.slice (some ⟨w.heap.size, 0, none⟩) 0 0) 0 (intCells []) from hm2)
  have hlo : w.heap.size < w1.heap.size := by have := (Hm1.out.lt w.heap.size rfl).2; exact this
  have hhi : w1.heap.size ≤ w2.heap.size := hb2.size
  obtain ⟨lo, hlo'⟩ : ∃ lo, w1.heap.size = lo := ⟨_, rfl⟩
  obtain ⟨hi, hhi'⟩ : ∃ hi, w2.heap.size = hi := ⟨_, rfl⟩
  rw [hlo'] at hlo hhi
  rw [hhi'] at hhi
  have Hlo := Lib.hid hlo'; have Hhi := Lib.hid hhi'
  clear hg2 hb2 hm2 hlo' hhi'
  go_wp2
  go_loopw [5, 7] (fun ov iv wr => ∃ i : Nat, i ≤ C.length ∧ iv = .int .i64 i ∧ ∃ g cap, ov = .slice (some ⟨g, 0, none⟩) i cap ∧ (g < lo ∨ hi ≤ g) ∧ hi ≤ wr.heap.size ∧ Hid (Below w.heap.size w wr) ∧ Hid (GridIn wr lo hi ca C) ∧ Hid (∃ r : List Int, r.length = i ∧ wr.ownsRow w.heap.size 3 1 (.slice (some ⟨g, 0, none⟩) i cap) i (intCells r) ∧ r.Perm ((C.take i).map fun r => (r.length : Int)) ∧ r.Pairwise (· ≤ ·))) (fun _ iv _ => C.length - (intOf iv).toNat)
  case atStart => exact ⟨0, by omega, rfl, w.heap.size, 0, rfl, Or.inl hlo, by rw [Hhi.out]; exact Nat.le_refl _, Hb2, Lib.hid (by rw [← Hlo.out, ← Hhi.out]; exact Hg2.out), Lib.hid ⟨[], rfl, Hm2.out, List.Perm.refl _, List.Pairwise.nil⟩⟩
  case round =>
    obtain ⟨i, hi', rfl, g, cap, rfl, hgo, hsz, hb, hgr, hrow⟩ := hrel
    by_cases hlt : i < C.length
    · obtain ⟨q, hq⟩ := get_some hlt
      obtain ⟨b, o, ai, ci, rfl, hbw, hcell, _⟩ := hgr.out.grid.get hq
      obtain ⟨r, hrl, hown, hperm, hsort⟩ := hrow.out
      have hP := spec_l9Put w.heap.size g cap r (q.length : Int) wr (by rw [hrl]; exact hown) hb.out.size (by omega)
      rw [hrl] at hP
      have hnext : ∀ p, Cv.Cut r (q.length : Int) p → ((r.take p ++ [(q.length : Int)] ++ r.drop p).Perm ((C.take (i + 1)).map fun r => (r.length : Int)) ∧ (r.take p ++ [(q.length : Int)] ++ r.drop p).Pairwise (· ≤ ·) ∧ (r.take p ++ [(q.length : Int)] ++ r.drop p).length = i + 1) := fun p hp => by
        obtain ⟨hl2, rfl⟩ := List.getElem?_eq_some_iff.1 hq
        refine ⟨?_, Cv.cut_sorted hp hsort, ?_⟩
        · rw [List.take_succ_eq_append_getElem hl2, List.map_append]
          exact (Cv.cut_perm r _ p).trans (hperm.append_right _)
        · rw [(Cv.cut_perm r _ p).length_eq, List.length_append, hrl]; rfl
      have hglt := (hown.lt g rfl)
      have HP := Lib.hid hP; have Hnext := Lib.hid hnext; have Hrl := Lib.hid hrl
      have hi0 : (0 : Int) ≤ (i : Int) := by omega
      have hi1 : (i : Int) < (C.length : Int) := by omega
      clear hP hnext hown hperm hsort hrow hrl hq
      go_wp2_with fail
      refine HP.out.mono ?_
      rintro e w3 ⟨g', cap', p, rfl, hcut, hown3, hg3, hgg⟩
      have hN3 := Hnext.out p hcut
      have Hown3 := Lib.hid hown3; have Hg3 := Lib.hid hg3; have HN3 := Lib.hid hN3
      rw [Hrl.out] at Hown3
      rw [Hrl.out]
      clear hown3 hg3 hN3 hcut
      go_wp2
      go_roundw
      case rel =>
        refine ⟨i + 1, by omega, by go_num, g', cap', rfl, by rcases hgg with h | h <;> omega, Nat.le_trans hsz Hg3.out.size, Lib.hid (Below.grown hb.out Hg3.out hb.out.size (fun k hk => by cases hk; exact hglt.1)), Lib.hid ?_, Lib.hid ⟨_, HN3.out.2.2, Hown3.out, HN3.out.1, HN3.out.2.1⟩⟩
        exact hgr.out.only (Only.of_grown Hg3.out) (by omega)
      case measure => simp [intOf]; omega
    · obtain rfl : i = C.length := by omega
      obtain ⟨r, hrl, hown, hperm, hsort⟩ := hrow.out
      rw [List.take_of_length_le (Nat.le_refl _)] at hperm
      have hs := Cv.sort_eq hperm hsort
      have hg := own_gives hown hrl hb.out
      rw [← hs] at hg
      have Hg := Lib.hid hg
      clear hs hg hown hperm hsort hrow hrl
      go_wp2
      go_ret
      exact Hg.out
end Go.Proofs.YtamgimdjnmcpaaaGreat
namespace Go.Proofs.YtamgimdjnmcpaaaGreat
open Go.RowKit Go.Sort

/-- The library's sort of a row of the call's own. -/
theorem lib_Sort (N g cap : Nat) (l : List Int) (w : World) (hown : w.ownsRow N 3 1 (.slice (some ⟨g, 0, none⟩) l.length cap) l.length (intCells l)) (hl : l.length ≤ 1000000) :
    Calls Tryz.prog 43 #[.slice (some ⟨g, 0, none⟩) l.length cap] w fun e w' => e = .returned (.tuple #[]) ∧ w'.ownsRow N 3 1 (.slice (some ⟨g, 0, none⟩) l.length cap) l.length (intCells l.mergeSort) ∧ w.grownBy w' (some g) := by
  rcases hown.2 with ⟨e, _⟩ | ⟨g', cap', cur, e, hbase, hb, h1, h2, h3, h4⟩
  · cases e
  · cases e
    refine (Tryz.slices_Sort_int g 0 cap l w (holds_of_blockI hb (by simpa [intCells] using h4)) (Array.getElem?_eq_some_iff.1 hb).1 (by omega)).mono ?_
    rintro e w' ⟨rfl, n, os, rfl⟩
    refine ⟨rfl, ?_, grownBy_sortedI _⟩
    have := ownsRow_sortedI (w := w) (base := N) (g := g) (cap := cap) (n := n) (e := 3) (os := os) (cur := cur) (ss := l) (ts := l.mergeSort) (by simp) hbase hb h1 h2 h3
    exact this
theorem lib_Sort_nil (a : Option Addr) (cap : Nat) (w : World) :
    Calls Tryz.prog 43 #[.slice a 0 cap] w fun e w' => e = .returned (.tuple #[]) ∧ w' = w := Tryz.slices_Sort_int_none a cap w
set_option maxRecDepth 10000 in
set_option maxHeartbeats 2000000 in
theorem impl_LiftLengths (a aw : Option Addr) (c cw : Nat) (L : List (List Int)) (l : List Int) (w : World) (ha : GridAt w a L) (hL : ∀ p ∈ L, p.length ≤ 1048576) (hn : L.length ≤ 1048576) (haw : RowAt w aw (intCells l)) (hl : l.length ≤ 1048576) :
    Calls Tryz.prog 10 #[.slice a L.length c, .slice aw l.length cw] w fun e w' => Gives w (Cv.lifts L l) e w' := by
  obtain ⟨i0, hi0, hz0, hz1, hz2⟩ := info_int_parts
  have Hi0 := Lib.hid hi0; have Hz0 := Lib.hid hz0; have Hz1 := Lib.hid hz1; have Hz2 := Lib.hid hz2
  have hA := impl_ActWord a aw c cw L l w ha hL hn haw hl
  have hl5 := Cv.actW_len5 L l
  have hC := fun ai am ci cm W (h1 : RowAt W ai (intCells (Cv.actW L l))) (h2 : RowAt W am (intCells (Cls.row id (Cv.actW L l).length))) => impl_sheetCycles ai am ci cm (Cv.actW L l).length (List.range (Cv.actW L l).length) (Mp.at_ (Cv.actW L l)) W (by rw [Mp.at_row (Cv.actW_isP L l)]; exact h1) h2 (fun m hm => List.mem_range.1 hm) (fun d hd => Mp.at_lt (Cv.actW_isP L l) hd) (by omega) (by simp; omega)
  have hce : Mp.natRows (Cv.cycIn (Mp.at_ (Cv.actW L l)) (Cv.actW L l).length (List.range (Cv.actW L l).length)).2 = Mp.cycles (Cv.actW L l) := rfl
  rw [hce, List.length_range] at hC
  rw [Cv.lifts_eq]
  have hfew := Cv.cycles_few L l
  generalize Mp.cycles (Cv.actW L l) = C at *
  generalize Cv.actW L l = A at *
  obtain ⟨M, hM⟩ : ∃ M, (C.map fun r => (r.length : Int)) = M := ⟨_, rfl⟩
  rw [hM]
  have HA := Lib.hid hA; have HC := Lib.hid hC; have HM := Lib.hid hM
  clear hA hC ha haw hL hi0 hz0 hz1 hz2 hce hM
  go_enter Tryz.func10, Tryz.ntmps10
  go_wp2_with fail
  refine HA.out.mono ?_
  rintro e w1 ⟨ra, rc, rfl, _, _, hf1, hb1⟩
  have Hf1 := Lib.hid hf1.row; have Hb1 := Lib.hid hb1
  clear hf1 hb1
  go_wp2_with fail
  refine (impl_unmovedSheets A.length w1 (by omega)).mono ?_
  rintro e w2 ⟨rfl, hlab, hb2⟩
  have Hf2 := Lib.hid (Hf1.out.below hb2); have Hu2 := Lib.hid hlab.row; have Hb2 := Lib.hid (Hb1.out.trans (hb2.mono Hb1.out.size))
  clear hlab hb2
  go_wp2_with fail
  refine (HC.out ra _ rc _ w2 Hf2.out Hu2.out).mono ?_
  rintro e w3 ⟨ca, cc, rfl, _, _, hg3, hb3⟩
  have Hb3 := Lib.hid (Hb2.out.trans (hb3.mono Hb2.out.size)); have Hg3 := Lib.hid hg3.grid
  clear hg3 hb3
  go_wp2
  go_loopw [6, 8, 18] (fun ov _ iv wr => ∃ i : Nat, i ≤ C.length ∧ iv = .int .i64 i ∧ Hid (Below w3.heap.size w3 wr) ∧ Hid (wr.ownsRow w3.heap.size 3 1 ov i (intCells ((C.take i).map fun r => (r.length : Int))))) (fun _ _ iv _ => C.length - (intOf iv).toNat)
  case atStart => exact ⟨0, by omega, rfl, Lib.hid (Below.refl _ _), Lib.hid (World.ownsRow_nil _ _ _ _)⟩
  case round =>
    obtain ⟨i, hi, rfl, hb, hown⟩ := hrel
    by_cases hlt : i < C.length
    · obtain ⟨q, hq⟩ := get_some hlt
      obtain ⟨b, o, ai, ci, rfl, hbw, hcell, _⟩ := (Hg3.out.below hb.out).get hq
      have hst : intCells ((C.take i).map fun r => (r.length : Int)) ++ [.int .i64 (q.length : Int)] = intCells ((C.take (i + 1)).map fun r => (r.length : Int)) := by
        obtain ⟨hl2, rfl⟩ := List.getElem?_eq_some_iff.1 hq
        rw [List.take_succ_eq_append_getElem hl2, List.map_append, List.map_cons, List.map_nil, ← intCells_snoc]
      have Hst := Lib.hid hst
      obtain ⟨av, cv, rfl⟩ := own_len hown.out
      have hm1 : i + 1 ≤ maxLen := by unfold maxLen; omega
      have hm2 : (i + 1) * 8 ≤ 140737488355328 := by omega
      have hN := hb.out.size
      have hi0 : (0 : Int) ≤ (i : Int) := by omega
      have hi1 : (i : Int) < (C.length : Int) := by omega
      clear hst hq
      generalize intCells ((C.take i).map fun r => (r.length : Int)) = X at *
      go_wp2_with (at_builtin; refine append_one rfl (.tmp 22) (.tmp 25) 30 rfl w3.heap.size 3 i0 _ 8 Tryz.underlying30 Hi0.out Hz0.out Hz1.out Hz2.out (by rfl) _ _ _ rfl hown.out (by rfl) _ rfl hm1 hm2 hN ?_; intro v1 w1 hown1 hg1 _)
      go_roundw
      case rel => exact ⟨i + 1, by omega, by go_num, Lib.hid (Below.grown (hb.out.alloc hN _) hg1 (by simp; omega) (fun k hk => (hown.out.lt k hk).1)), Lib.hid (by rw [← Hst.out]; exact hown1)⟩
      case measure => simp [intOf]; omega
    · obtain rfl : i = C.length := by omega
      rw [List.take_of_length_le (Nat.le_refl _)] at hown
      rw [HM.out] at hown
      have hml : M.length = C.length := by rw [← HM.out]; exact List.length_map _
      have hbw := Hb3.out.trans (hb.out.mono Hb3.out.size)
      by_cases h0 : C.length = 0
      · obtain ⟨av, cv, rfl⟩ := own_len hown.out
        have hM : M = [] := List.eq_nil_of_length_eq_zero (by omega)
        have hg := own_gives (own_mono hown.out Hb3.out.size) hml hbw
        rw [h0] at hg
        rw [show M = M.mergeSort from by rw [hM]; simp] at hg
        have Hg := Lib.hid hg
        clear hM hml hbw hg
        rw [h0]
        go_wp2_with fail
        refine (lib_Sort_nil av cv wr).mono ?_
        rintro e w5 ⟨rfl, hw5⟩
        rw [hw5]; clear hw5 w5
        go_wp2
        go_ret
        exact Hg.out
      · obtain ⟨g, cap, rfl, hcap, hcm⟩ := own_form hown.out (by omega)
        have hS := lib_Sort w3.heap.size g cap M wr (by rw [hml]; exact hown.out) (by omega)
        rw [hml] at hS
        have hgN := (hown.out.lt g rfl).1
        have HS := Lib.hid hS; have Hml := Lib.hid hml; have Hbw := Lib.hid hbw
        have hw3 := Hb3.out.size
        clear hS hml hbw h0
        go_wp2_with fail
        refine HS.out.mono ?_
        rintro e w5 ⟨rfl, hown5, hg5⟩
        have hb5 := Below.grown Hbw.out hg5 Hbw.out.size (fun k hk => by cases hk; omega)
        have hg := own_gives (own_mono hown5 hw3) (by rw [List.length_mergeSort]; exact Hml.out) hb5
        have Hg := Lib.hid hg
        clear hg hown5 hg5 hb5
        go_wp2
        go_ret
        exact Hg.out
end Go.Proofs.YtamgimdjnmcpaaaGreat
