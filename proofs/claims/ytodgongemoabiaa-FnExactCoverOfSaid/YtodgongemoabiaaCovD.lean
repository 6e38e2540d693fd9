/-
  The walks of the model's l9Parts and SheetParts. The walk of the program's SheetParts. The walks of the program's cyclesAmong and sheetCycles. The walk of the program that tells the surfaces of a covering. The walk of the program that tells the surfaces of a covering. What the exact laws do with rows of surfaces: compare, mark, look at the marks. The walk of the model that tells the surfaces of a covering. CoverOf's contracts in the form that its exact law asks for.
-/
import Derived.Test.YtodgongemoabiaaBase
import Derived.Test.YtodgongemoabiaaSlice
import Derived.Test.YtodgongemoabiaaIntRow
import Derived.Test.YtodgongemoabiaaInts
import Derived.Test.YtodgongemoabiaaOwn
import Derived.Test.YtodgongemoabiaaAppend
import Derived.Test.YtodgongemoabiaaWord
import Derived.Test.YtodgongemoabiaaIsWord
import Derived.Test.YtodgongemoabiaaGrid
import Derived.Test.YtodgongemoabiaaGridWalk
import Derived.Test.YtodgongemoabiaaGridRows
import Derived.Test.YtodgongemoabiaaRowI
import Derived.Test.YtodgongemoabiaaRowsLit
import Derived.Test.YtodgongemoabiaaClass
import Derived.Test.YtodgongemoabiaaTri
import Derived.Test.YtodgongemoabiaaLab
import Derived.Test.YtodgongemoabiaaMap
import Derived.Test.YtodgongemoabiaaMapA
import Derived.Test.YtodgongemoabiaaMapB
import Derived.Test.YtodgongemoabiaaMapC
import Derived.Test.YtodgongemoabiaaMapE
import Derived.Test.YtodgongemoabiaaUses
import Derived.Test.YtodgongemoabiaaCov
import Derived.Test.YtodgongemoabiaaCovA
import Derived.Deep.QuietTactic
import Derived.BigQuiet
import Derived.StillTailTactics
import Derived.Test.YtodgongemoabiaaBag
import Derived.Test.YtodgongemoabiaaCovB
import Derived.Test.YtodgongemoabiaaRws
import Derived.Test.YtodgongemoabiaaMapD
import Derived.Test.YtodgongemoabiaaSurf
import Derived.Test.YtodgongemoabiaaSurfI
import Derived.Test.YtodgongemoabiaaCovC
import Derived.Deep.RegionHeld3
import Derived.Test.YtodgongemoabiaaEnds
import Derived.Test.YtodgongemoabiaaAm
import Derived.Test.YtodgongemoabiaaGrpA
import Derived.Test.YtodgongemoabiaaCovR
import Derived.Test.YtodgongemoabiaaHead
import Derived.Test.YtodgongemoabiaaAdTot
namespace Go.Proofs.Ytodgongemoabiaa
open Go.RowKit

namespace Cv
theorem minlink {u c d : Nat → Nat} {n a b : Nat} (h : Cls.Up u c d n) (ha : a < n) (hb : b < n) : ∃ d', Cls.Up (fun k => if k = max (c a) (c b) then min (c a) (c b) else u k) (minMerge c (a, b)) d' n := by
  unfold minMerge
  by_cases e : c a ≤ c b
  · rw [if_pos e]
    have := h.link (p := (b, a)) hb ha
    rw [show max (c a) (c b) = c b by omega, show min (c a) (c b) = c a by omega]
    exact ⟨_, this⟩
  · rw [if_neg e]
    have := h.link (p := (a, b)) ha hb
    rw [show max (c a) (c b) = c a by omega, show min (c a) (c b) = c b by omega]
    exact ⟨_, this⟩
/-- The classes whose least members lie below s; the members of a class below t. -/
def pTo (c : Nat → Nat) (n s : Nat) : List (List Nat) := ((List.range s).filter fun s => decide (∀ k, k < s → c k ≠ c s)).map (member c n)
def mTo (c : Nat → Nat) (s t : Nat) : List Nat := (List.range t).filter fun t => c t == c s
theorem pTo_zero (c : Nat → Nat) (n : Nat) : pTo c n 0 = [] := rfl
theorem pTo_yes {c : Nat → Nat} {n s : Nat} (h : ∀ k, k < s → c k ≠ c s) : pTo c n (s + 1) = pTo c n s ++ [mTo c s n] := by
  unfold pTo
  rw [List.range_succ, List.filter_append, List.map_append]
  congr 1
  rw [List.filter_cons, if_pos (decide_eq_true h)]; rfl
theorem pTo_no {c : Nat → Nat} {n s : Nat} (h : ¬ ∀ k, k < s → c k ≠ c s) : pTo c n (s + 1) = pTo c n s := by
  unfold pTo
  rw [List.range_succ, List.filter_append, List.map_append, List.filter_cons, if_neg (by rw [decide_eq_false h]; decide)]
  simp
theorem pTo_end (c : Nat → Nat) (n : Nat) : pTo c n n = classes c n := rfl
theorem pTo_len (c : Nat → Nat) (n s : Nat) : (pTo c n s).length ≤ s := by
  unfold pTo
  rw [List.length_map]
  have := List.length_filter_le (fun s => decide (∀ k, k < s → c k ≠ c s)) (List.range s)
  rwa [List.length_range] at this
theorem mTo_len (c : Nat → Nat) (s t : Nat) : (mTo c s t).length ≤ t := by
  unfold mTo
  have := List.length_filter_le (fun t => c t == c s) (List.range t)
  rwa [List.length_range] at this
theorem mTo_yes {c : Nat → Nat} {s t : Nat} (h : c t = c s) : intsOf (mTo c s (t + 1)) = intsOf (mTo c s t) ++ [(t : Int)] := by
  unfold mTo
  rw [List.range_succ, List.filter_append, List.filter_cons, if_pos (by simp [h]), List.filter_nil, intsOf_snoc]
theorem mTo_no {c : Nat → Nat} {s t : Nat} (h : c t ≠ c s) : intsOf (mTo c s (t + 1)) = intsOf (mTo c s t) := by
  unfold mTo
  rw [List.range_succ, List.filter_append, List.filter_cons, if_neg (by simp [h]), List.filter_nil, List.append_nil]
theorem parts_min (L : List (List Int)) : partsN L = classes (minAll (pairs L)) (deg L) := (classes_ker (minAll_ker (pairs L)) (deg L)).symm
end Cv

set_option maxRecDepth 10000 in
theorem spec_l1MinG (x y : Int) (w : World) : Calls Try.prog 178 #[.int .i64 x, .int .i64 y] w fun e w' => e = .returned (.int .i64 (min x y)) ∧ w' = w := by
  by_cases h : x < y
  · rw [show min x y = x by omega]
    go_enter Try.func178, Try.ntmps178
    go_wp2
    go_ret
    exact ⟨rfl, rfl⟩
  · rw [show min x y = y by omega]
    go_enter Try.func178, Try.ntmps178
    go_wp2
    go_ret
    exact ⟨rfl, rfl⟩

set_option maxRecDepth 10000 in
set_option maxHeartbeats 4000000 in
theorem spec_l9Parts (a : Option Addr) (c : Nat) (L : List (List Int)) (w : World) (ha : GridAt w a L) (hP : Cv.Perms L) :
    Calls Try.prog 136 #[.slice a L.length c] w fun e w' => GivesRows w (Mp.natRows (Cv.partsN L)) e w' := by
  obtain ⟨i0, hi0, hz0, hz1, hz2⟩ := info_int_parts
  obtain ⟨j0, hj0, hy0, hy1, hy2⟩ := info_ints_parts
  have h5 := hP.2.2.2.2
  have h1 := hP.2.2.2.1
  have hl1 := hP.2.1
  have hl8 := hP.2.2.1
  have hown0 := own_made (w := w) rfl
  have hb0 := (Below.refl w.heap.size w).alloc (Nat.le_refl _) (.cells #[] 3)
  rw [Cv.parts_min]
  obtain ⟨r0, hr0, hr0l⟩ := Cv.head_get (L := L) (by omega)
  obtain ⟨b0, o0, a0, c0, rfl, hbw0, hcell0, _⟩ := ha.get hr0
  rw [Nat.add_zero, hr0l] at hcell0
  have i2 : 0 < L.length := by omega
  have hlt : ∀ q ∈ L, ∀ s, s < Cv.deg L → q[s]? = some ((Mp.at_ q s : Nat) : Int) ∧ Mp.at_ q s < Cv.deg L := fun q hq s hs => by
    obtain ⟨k1, k2⟩ := hP.1 q hq
    refine ⟨Mp.at_get k2 (by omega), ?_⟩
    have := Mp.at_lt k2 (d := s) (by omega); omega
  have hrl : ∀ q ∈ L, q.length = Cv.deg L := fun q hq => (hP.1 q hq).1
  obtain ⟨n, hn⟩ : ∃ n, n = Cv.deg L := ⟨_, rfl⟩
  rw [← hn] at hcell0 h5 h1 hlt hrl ⊢
  obtain ⟨R, hR⟩ : ∃ R, Cv.classes (Cv.minAll (Cv.pairs L)) n = R := ⟨_, rfl⟩
  rw [hR]
  generalize hN : w.heap.size = N at *
  have HN := Lib.hid hN
  have Hi0 := Lib.hid hi0; have Hz0 := Lib.hid hz0; have Hz1 := Lib.hid hz1; have Hz2 := Lib.hid hz2
  have Hj0 := Lib.hid hj0; have Hy0 := Lib.hid hy0; have Hy1 := Lib.hid hy1; have Hy2 := Lib.hid hy2
  have Hown0 := Lib.hid hown0; have Hb0 := Lib.hid hb0; have Ha := Lib.hid ha; have Hc0 := Lib.hid hcell0; have Hlt := Lib.hid hlt; have Hrl := Lib.hid hrl; have HR := Lib.hid hR
  have hrd0 : Hid (∀ W, Below N w W → W.cell? ⟨b0, o0, none⟩ = some (.slice a0 n c0)) := Lib.hid (fun W h => by rw [h.cell (p := ⟨b0, o0, none⟩) hbw0]; exact Hc0.out)
  clear hi0 hz0 hz1 hz2 hj0 hy0 hy1 hy2 hown0 hb0 ha hP hr0 hr0l hcell0 hlt hn hrl hR
  go_enter Try.func136, Try.ntmps136
  go_wp2
  go_loopw [3, 4] (fun ov iv wr => ∃ i : Nat, i ≤ n ∧ iv = .int .i64 i ∧ Hid (Below N w wr) ∧ wr.ownsRow N 3 1 ov i (intCells (Cls.row id i))) (fun _ iv _ => n - (intOf iv).toNat)
  case atStart => exact ⟨0, by omega, rfl, Hb0, Hown0.out⟩
  case round =>
    obtain ⟨i, hi, rfl, hb, hown⟩ := hrel
    have c1 := hrd0.out wr hb.out
    by_cases hlti : i < n
    · have hNle : N ≤ wr.heap.size := by have := hb.out.size; rw [HN.out] at this; exact this
      have Hst := Lib.hid (row_snoc id i)
      obtain ⟨av, cv, rfl⟩ := own_len hown
      have hm1 : i + 1 ≤ maxLen := by unfold maxLen; omega
      have hm2 : (i + 1) * 8 ≤ 140737488355328 := by omega
      generalize Cls.row id i = X at *
      go_wp2_with (at_builtin; refine append_one rfl (.tmp 22) (.tmp 24) 42 rfl N 3 i0 _ 8 Try.underlying42 Hi0.out Hz0.out Hz1.out Hz2.out (by rfl) _ _ _ rfl hown (by rfl) _ rfl hm1 hm2 hNle ?_; intro v1 w1 hown1 hg1 _)
      go_roundw
      case rel =>
        refine ⟨i + 1, by omega, by go_num, Lib.hid (Below.grown (hb.out.alloc hNle _) hg1 (by simp; omega) (fun k hk => (hown.lt k hk).1)), ?_⟩
        rw [← Hst.out, ← intCells_snoc]; exact hown1
      case measure => simp [intOf]; omega
    · obtain rfl : n = i := by omega
      obtain ⟨g, cap, rfl, hcap, hcm⟩ := own_form hown (by omega)
      have hgN := (hown.lt g rfl).1
      have Hlab := Lib.hid (ownRow_lab hown); have HgN := Lib.hid hgN
      clear hown hgN
      go_wp2
      clear c1
      go_loopw [5, 6, 7, 8] (fun iv _ _ _ wr => ∃ i : Nat, i ≤ L.length ∧ iv = .int .i64 i ∧ Hid (Below N w wr) ∧ Hid (∃ u d, Lab wr g u n ∧ Cls.Up u (Cv.minAll (met Cv.step1 L i 0)) d n)) (fun iv _ _ _ _ => L.length - (intOf iv).toNat)
      case atStart => exact ⟨0, by omega, rfl, hb, Lib.hid ⟨id, _, Hlab.out, Cls.Up.start _⟩⟩
      case round =>
        clear hb Hlab
        obtain ⟨k, hk, rfl, hb, hun⟩ := hrel
        by_cases hltk : k < L.length
        · obtain ⟨q, hq⟩ := get_some hltk
          have hql := Hrl.out q (get_mem hq)
          have hqa := Hlt.out q (get_mem hq)
          have hnx := met_next (f := Cv.step1) hq
          rw [hql] at hnx
          have hst := fun j => met_step (f := Cv.step1) j hq
          have Hnx := Lib.hid hnx; have Hst := Lib.hid hst; have Hqa := Lib.hid hqa; have Hq := Lib.hid hq; have Hql := Lib.hid hql
          clear hnx hst hqa hq hql
          go_wp2
          go_loopw [6, 7, 8] (fun jv _ _ wr => ∃ j : Nat, j ≤ n ∧ jv = .int .i64 j ∧ Hid (Below N w wr) ∧ Hid (∃ u d, Lab wr g u n ∧ Cls.Up u (Cv.minAll (met Cv.step1 L k j)) d n)) (fun jv _ _ _ => n - (intOf jv).toNat)
          case atStart => exact ⟨0, by omega, rfl, hb, hun⟩
          case round =>
            clear hb hun
            obtain ⟨j, hj, rfl, hb, hun⟩ := hrel
            by_cases hltj : j < n
            · obtain ⟨u, d, hlab, hup⟩ := hun.out
              obtain ⟨hqj, hyn⟩ := Hqa.out j hltj
              obtain ⟨b, o, ai, ci, e0, hbw, hcell, hrow⟩ := (Ha.out.below (by rw [HN.out]; exact hb.out)).get Hq.out
              cases e0
              rw [Hql.out] at hcell
              obtain ⟨b2, o2, rfl, hbw2, hcell2⟩ := intCells_get? hrow hqj
              obtain ⟨d', hup'⟩ := Cv.minlink hup hltj hyn
              rw [show Cv.minMerge (Cv.minAll (met Cv.step1 L k j)) (j, Mp.at_ q j) = Cv.minAll (met Cv.step1 L k (j + 1)) by rw [Hst.out j, Cv.minAll_snoc]; rfl] at hup'
              have hca := hup.ok.lt j hltj
              have hcb := hup.ok.lt _ hyn
              have hfx := fun W h => spec_l3Find (some ⟨g, 0, none⟩) cap n u _ d j (j : Int) rfl W h hup hltj (by omega)
              have hfy := fun W h => spec_l3Find (some ⟨g, 0, none⟩) cap n u _ d (Mp.at_ q j) ((Mp.at_ q j : Nat) : Int) rfl W h hup hyn (by omega)
              have Hup' := Lib.hid hup'
              clear hup' hup
              generalize Cv.minAll (met Cv.step1 L k j) j = x at *
              generalize Cv.minAll (met Cv.step1 L k j) (Mp.at_ q j) = y at *
              generalize Mp.at_ q j = z at *
              have hmx := fun W => spec_l1Max (x : Int) (y : Int) W
              have hmn := fun W => spec_l1MinG (x : Int) (y : Int) W
              rw [show max (x : Int) (y : Int) = ((max x y : Nat) : Int) by omega] at hmx
              rw [show min (x : Int) (y : Int) = ((min x y : Nat) : Int) by omega] at hmn
              have hmlt : max x y < n := by omega
              have hput := hlab.put (b := min x y) hmlt
              have hdst := hlab.cell hmlt
              have hfz := hlab.frozen (max x y)
              have hrowl := hlab.row
              generalize max x y = mx at *
              generalize min x y = mn at *
              have hc0 : (0 : Int) ≤ (mx : Int) := by omega
              have hc1 : (mx : Int) < (n : Int) := by omega
              have hi0 : (0 : Int) ≤ (k : Int) := by omega
              have hi1 : (k : Int) < (L.length : Int) := by omega
              have hj0' : (0 : Int) ≤ (j : Int) := by omega
              have hj1 : (j : Int) < (n : Int) := by omega
              have Hfx := Lib.hid hfx; have Hfy := Lib.hid hfy; have Hmx := Lib.hid hmx; have Hmn := Lib.hid hmn; have Hput := Lib.hid hput; have Hrow := Lib.hid hrowl
              clear hfx hfy hmx hmn hput hrowl hlab hqj hun hrow
              generalize u mx = um at hdst
              go_wp2_with fail
              refine (Hfx.out _ Hrow.out).mono ?_
              rintro e w2 ⟨rfl, hw2⟩
              rw [hw2]; clear hw2 w2
              go_wp2_with fail
              refine (Hfy.out _ Hrow.out).mono ?_
              rintro e w2 ⟨rfl, hw2⟩
              rw [hw2]; clear hw2 w2
              go_wp2_with fail
              refine (Hmx.out _).mono ?_
              rintro e w2 ⟨rfl, hw2⟩
              rw [hw2]; clear hw2 w2
              go_wp2_with fail
              refine (Hmn.out _).mono ?_
              rintro e w2 ⟨rfl, hw2⟩
              rw [hw2]; clear hw2 w2
              go_wp2
              go_roundw
              case rel => exact ⟨j + 1, by omega, by go_num, Lib.hid (hb.out.setCell HgN.out _), Lib.hid ⟨_, d', Hput.out, Hup'.out⟩⟩
              case measure => simp [intOf]; omega
            · obtain rfl : n = j := by omega
              rw [Hnx.out] at hun
              go_wp2
              go_roundw
              case rel => exact ⟨k + 1, by omega, by go_num, hb, hun⟩
              case measure => simp [intOf]; omega
        · obtain rfl : k = L.length := by omega
          rw [met_end] at hun
          obtain ⟨u, d, hlab, hup⟩ := hun.out
          have hle := Cv.minAll_le (Cv.pairs L)
          have hup2 : Cls.Up u (Cv.minAll (Cv.pairs L)) d n := hup
          generalize Cv.minAll (Cv.pairs L) = f at *
          have Hup := Lib.hid hup2; have Hlab := Lib.hid hlab; have Hle := Lib.hid hle
          obtain ⟨wo, rfl⟩ : ∃ wo : World, wo = wr := ⟨_, rfl⟩
          have hglt := hlab.lt
          have HNo : Hid (N ≤ wo.heap.size) := Lib.hid (by have := hb.out.size; rw [HN.out] at this; exact this)
          clear hun hlab hup hup2 hle
          go_wp2
          go_loopw [9, 10, 11, 12] (fun ov sv _ _ wr => ∃ s : Nat, s ≤ n ∧ sv = .int .i64 s ∧ Hid (RowsIn wo wo.heap.size wr ov (Mp.natRows (Cv.pTo f n s)))) (fun _ sv _ _ _ => n - (intOf sv).toNat)
          case atStart => exact ⟨0, by omega, rfl, Lib.hid (RowsIn.made (Below.refl _ _) (Nat.le_refl _))⟩
          case round =>
            obtain ⟨s, hs, rfl, hrows⟩ := hrel
            by_cases hlts : s < n
            · obtain ⟨hs0, e1, hown, hin, hap, hbl⟩ := hrows.out
              have hlabr := Hlab.out.below hbl hglt
              have hcs := hlabr.cell hlts
              have hroot := Hup.out.root s hlts
              have hfm := Cv.firsts_min (c := f) (n := n) (fun k _ => Hle.out k) (fun k hk => Hup.out.ok.idem k hk) hlts
              have hs0' : (0 : Int) ≤ (s : Int) := by omega
              have hs1 : (s : Int) < (n : Int) := by omega
              by_cases he : u s = s
              · have hfs := hroot.1 he
                have hne : ((u s : Int) != (s : Int)) = false := by simp [he]
                have Hyes := Lib.hid (Cv.pTo_yes (n := n) (hfm.2 hfs))
                have Hfs := Lib.hid hfs
                have Hlabr := Lib.hid hlabr; have He1 := Lib.hid e1; have Hown := Lib.hid hown; have Hin := Lib.hid hin; have Hap := Lib.hid hap; have Hbl := Lib.hid hbl
                have hwo := hbl.size
                generalize ((u s : Nat) : Int) = us at *
                clear hroot hfm he hfs hlabr e1 hown hin hap hbl
                obtain ⟨wi, rfl⟩ : ∃ wi : World, wi = wr := ⟨_, rfl⟩
                have Hmk := Lib.hid (own_made (w := wi) rfl)
                have hal := (Below.refl wi.heap.size wi).alloc (Nat.le_refl _) (.cells #[] 3)
                go_wp2
                go_loopw [11, 12] (fun pv tv w2 => ∃ t : Nat, t ≤ n ∧ tv = .int .i64 t ∧ Hid (Below wi.heap.size wi w2) ∧ w2.ownsRow wi.heap.size 3 1 pv (Cv.mTo f s t).length (intCells (intsOf (Cv.mTo f s t)))) (fun _ tv _ => n - (intOf tv).toNat)
                case atStart => exact ⟨0, by omega, rfl, Lib.hid hal, Hmk.out⟩
                case round =>
                  obtain ⟨t, ht, rfl, hb2, hown2⟩ := hrel
                  by_cases hltt : t < n
                  · have hfx := spec_l3Find (some ⟨g, 0, none⟩) cap n u f d t (t : Int) rfl wr (Hlabr.out.below hb2.out Hlabr.out.lt).row Hup.out hltt (by omega)
                    have hml := Cv.mTo_len f s t
                    have hNle : wi.heap.size ≤ wr.heap.size := hb2.out.size
                    obtain ⟨av, cv, rfl⟩ := own_len hown2
                    by_cases hft : f t = s
                    · have heq : (((f t : Nat) : Int) == (s : Int)) = true := by simp [hft]
                      have Hy := Lib.hid (Cv.mTo_yes (c := f) (s := s) (t := t) (by rw [hft, Hfs.out]))
                      generalize f t = ft at *
                      have hln : (Cv.mTo f s (t + 1)).length = (Cv.mTo f s t).length + 1 := by have := congrArg List.length Hy.out; simpa [intsOf] using this
                      have Hln := Lib.hid hln
                      have hm1 : (Cv.mTo f s t).length + 1 ≤ maxLen := by unfold maxLen; omega
                      have hm2 : ((Cv.mTo f s t).length + 1) * 8 ≤ 140737488355328 := by omega
                      have Hfx := Lib.hid hfx; have Hown2 := Lib.hid hown2
                      clear hfx hft hown2 hln
                      generalize (Cv.mTo f s t).length = ml at *
                      go_wp2_with fail
                      refine Hfx.out.mono ?_
                      rintro e w3 ⟨rfl, hw3⟩
                      rw [hw3]; clear hw3 w3
                      go_wp2_with (at_builtin; refine append_one rfl (.tmp 83) (.tmp 85) 42 rfl wi.heap.size 3 i0 _ 8 Try.underlying42 Hi0.out Hz0.out Hz1.out Hz2.out (by rfl) _ _ _ rfl Hown2.out (by rfl) _ rfl hm1 hm2 hNle ?_; intro v1 w1 hown1 hg1 _)
                      go_roundw
                      case rel =>
                        refine ⟨t + 1, by omega, by go_num, Lib.hid (Below.grown (hb2.out.alloc hNle _) hg1 (by simp; omega) (fun k hk => (Hown2.out.lt k hk).1)), ?_⟩
                        rw [Hln.out, Hy.out, ← intCells_snoc]; exact hown1
                      case measure => simp [intOf]; omega
                    · have heq : (((f t : Nat) : Int) == (s : Int)) = false := beq_eq_false_iff_ne.2 (by omega)
                      have hno := Cv.mTo_no (c := f) (s := s) (t := t) (by rw [Hfs.out]; exact hft)
                      have hln : (Cv.mTo f s (t + 1)).length = (Cv.mTo f s t).length := by have := congrArg List.length hno; simpa [intsOf] using this
                      have Hno := Lib.hid hno; have Hln := Lib.hid hln
                      generalize f t = ft at *
                      have Hfx := Lib.hid hfx
                      clear hfx hft hno hln
                      go_wp2_with fail
                      refine Hfx.out.mono ?_
                      rintro e w3 ⟨rfl, hw3⟩
                      rw [hw3]; clear hw3 w3
                      go_wp2
                      go_roundw
                      case rel => exact ⟨t + 1, by omega, by go_num, hb2, by rw [Hln.out, Hno.out]; exact hown2⟩
                      case measure => simp [intOf]; omega
                  · obtain rfl : n = t := by omega
                    obtain ⟨pa, pc, rfl, hpc, hfr⟩ := own_fresh hown2 (by rw [intCells_len, intsOf_len])
                    have hlen := Cv.pTo_len f n s
                    have hlp : (Mp.natRows (Cv.pTo f n s)).length = (Cv.pTo f n s).length := Mp.natRows_len _
                    have hown3 := own_keep Hown.out hb2.out (fun k hk => (Hown.out.lt k hk).2)
                    rw [hlp] at hown3
                    obtain ⟨ova, ovc, hov⟩ := own_len hown3
                    subst hov
                    have hm1 : (Cv.pTo f n s).length + 1 ≤ maxLen := by unfold maxLen; omega
                    have hm2 : ((Cv.pTo f n s).length + 1) * 24 ≤ 140737488355328 := by omega
                    have hN2 : wo.heap.size ≤ wr.heap.size := by have := hb2.out.size; omega
                    have Hfr := Lib.hid hfr; have Hpc := Lib.hid hpc; have Hlp := Lib.hid hlp; have Hown3 := Lib.hid hown3
                    have hil : (intsOf (Cv.mTo f s n)).length = (Cv.mTo f s n).length := intsOf_len _
                    have Hil := Lib.hid hil
                    clear hfr hpc hlp hown3 hown2 hlen hil
                    generalize hpl : (Cv.pTo f n s).length = pl at *
                    have Hpl := Lib.hid hpl
                    generalize hml : (Cv.mTo f s n).length = ml at *
                    have Hml := Lib.hid hml
                    clear hpl hml
                    go_wp2_with (at_builtin; refine append_one rfl (.tmp 87) (.tmp 89) 24 rfl wo.heap.size 42 j0 _ 24 Try.underlying24 Hj0.out Hy0.out Hy1.out Hy2.out (by rfl) _ _ _ rfl Hown3.out (by rfl) _ rfl hm1 hm2 hN2 ?_; intro v1 w1 hown1 hg1 _)
                    go_roundw
                    case rel =>
                      refine ⟨s + 1, by omega, by go_num, Lib.hid ?_⟩
                      rw [Hyes.out, Mp.natRows_snoc]
                      exact RowsIn.push (c := pc) (a := pa) (l := intsOf (Cv.mTo f s n)) He1.out Hown.out Hin.out Hap.out Hbl.out hwo hb2.out Hfr.out (by rw [Hil.out]; exact Hpc.out) (by rw [Hlp.out, Hil.out]; exact hown1) hg1
                    case measure => simp [intOf]; omega
              · have hfs : ¬ f s = s := fun h => he (hroot.2 h)
                have hne : ((u s : Int) != (s : Int)) = true := by simp; omega
                have Hno := Lib.hid (Cv.pTo_no (n := n) (fun h => hfs (hfm.1 h)))
                generalize ((u s : Nat) : Int) = us at *
                clear hroot hfm he hfs hlabr e1 hown hin hap hbl
                go_wp2
                go_roundw
                case rel => exact ⟨s + 1, by omega, by go_num, by rw [Hno.out]; exact hrows⟩
                case measure => simp [intOf]; omega
            · obtain rfl : n = s := by omega
              have hg := (hrows.out.gives).later (w := w) (by rw [HN.out]; exact hb.out)
              rw [Cv.pTo_end, HR.out] at hg
              have Hg := Lib.hid hg
              obtain ⟨oa, oc, e, _⟩ := hg
              cases e
              clear hrows
              go_wp2
              go_ret
              exact Hg.out
theorem Cv.parts_of {L : List (List Int)} (h : Cv.Perms L) : Cv.parts L = Mp.natRows (Cv.partsN L) := if_pos h
theorem Cv.parts_not {L : List (List Int)} (h : ¬ Cv.Perms L) : Cv.parts L = [] := if_neg h
set_option maxRecDepth 10000 in
set_option maxHeartbeats 1000000 in
theorem spec_SheetParts (a : Option Addr) (c : Nat) (L : List (List Int)) (w : World) (ha : GridAt w a L) (hL : ∀ p ∈ L, p.length ≤ 1048576) (hn : L.length ≤ 1048576) :
    Calls Try.prog 58 #[.slice a L.length c] w fun e w' => GivesRows w (Cv.parts L) e w' := by
  have hcP := spec_l9Perms a c L w ha hL hn
  by_cases hP : Cv.Perms L
  · rw [decide_eq_true hP] at hcP
    rw [Cv.parts_of hP]
    have hc := fun W (hb : Below w.heap.size w W) => spec_l9Parts a c L W (ha.below hb) hP
    generalize Mp.natRows (Cv.partsN L) = R at *
    have HcP := Lib.hid hcP; have Hc := Lib.hid hc
    clear hcP hc ha hL hP
    go_enter Try.func58, Try.ntmps58
    go_wp2_with fail
    refine HcP.out.mono ?_
    rintro e w1 ⟨rfl, hb1⟩
    have Hb1 := Lib.hid hb1; clear hb1
    go_wp2_with fail
    refine (Hc.out _ Hb1.out).mono ?_
    rintro e w2 hg
    have Hg := Lib.hid (hg.later Hb1.out)
    obtain ⟨oa, oc, rfl, _⟩ := hg
    go_wp2
    go_ret
    exact Hg.out
  · rw [decide_eq_false hP] at hcP
    rw [Cv.parts_not hP]
    have HcP := Lib.hid hcP
    clear hcP ha hL hP
    go_enter Try.func58, Try.ntmps58
    go_wp2_with fail
    refine HcP.out.mono ?_
    rintro e w1 ⟨rfl, hb1⟩
    have Hb1 := Lib.hid hb1; clear hb1
    go_wp2
    go_ret
    exact GivesRows.none (Hb1.out.alloc Hb1.out.size _)
end Go.Proofs.Ytodgongemoabiaa
namespace Go.Proofs.Ytodgongemoabiaa
open Go.RowKit

set_option maxRecDepth 10000 in
set_option maxHeartbeats 1000000 in
/-- Where a label stands first. -/
theorem lib_IndexLeast (a : Option Addr) (cap n s : Nat) (f : Nat → Nat) (w : World) (ha : RowAt w a (intCells (Cls.row f n))) (hs : s < n) (hn : n ≤ 1000) :
    Calls Try.prog 139 #[.slice a n cap, .int .i64 ((f s : Nat) : Int)] w fun e w' => e = .returned (.int .i64 ((Cv.leastOf f s : Nat) : Int)) ∧ w' = w := by
  have hcells : ∀ j, j < n → ∃ b o, a = some ⟨b, o, none⟩ ∧ w.cell? ⟨b, o + j, none⟩ = some (.int .i64 ((f j : Nat) : Int)) := fun j hj => by
    obtain ⟨b, o, e, _, hc⟩ := intCells_get? ha (Cls.row_get hj)
    exact ⟨b, o, e, hc⟩
  have Hcells := Lib.hid hcells
  obtain ⟨h1, h2, h3⟩ := Cv.leastOf_spec f s
  have hq : Cv.leastOf f s < n := by omega
  have H1 := Lib.hid h1; have H3 := Lib.hid h3
  generalize Cv.leastOf f s = q at *
  obtain ⟨x, hx⟩ : ∃ x, f s = x := ⟨_, rfl⟩
  rw [hx]
  have Hx := Lib.hid hx
  clear ha hcells h1 h3 hx
  go_enter Try.func139, Try.ntmps139
  go_wp2
  go_loopw [5, 8] (fun _ iv wr => ∃ i : Nat, i ≤ q ∧ iv = .int .i64 i ∧ wr = w) (fun _ iv _ => n - (intOf iv).toNat)
  case atStart => exact ⟨0, by omega, rfl, rfl⟩
  case round =>
    obtain ⟨i, hi, rfl, rfl⟩ := hrel
    have hlt : i < n := by omega
    obtain ⟨b, o, rfl, hcell⟩ := Hcells.out i hlt
    have hlti : (i : Int) < (n : Int) := by omega
    by_cases he : f i = x
    · have Hiq := Lib.hid (show i = q from by
        rcases Nat.lt_or_ge i q with h | h
        · exact absurd (he.trans Hx.out.symm) (H3.out i h)
        · omega)
      have heq : ((x : Int) == ((f i : Nat) : Int)) = true := by rw [he]; simp
      clear he
      generalize ((f i : Nat) : Int) = y at *
      go_wp2
      go_ret
      exact ⟨by rw [Hiq.out]; rfl, rfl⟩
    · have hne : i ≠ q := fun e => he (by rw [e]; exact H1.out.trans Hx.out)
      have heq : ((x : Int) == ((f i : Nat) : Int)) = false := beq_eq_false_iff_ne.2 (by omega)
      clear he
      generalize ((f i : Nat) : Int) = y at *
      go_wp2
      go_roundw
      case rel => exact ⟨i + 1, by omega, by go_num, trivial⟩
      case measure => simp [intOf]; omega

namespace Cv
theorem intsOf_filter_rows (c : Nat → Nat) (n : Nat) {hs : List Hd} (h : hs.map Hd.l = Mp.natRows (rowsTo c n n)) : (hs.filter Hd.some).map Hd.l = Mp.natRows (classes c n) := by
  rw [← filter_rows]
  unfold Mp.natRows at *
  have h1 : (hs.filter Hd.some).map Hd.l = (hs.map Hd.l).filter fun r => !r.isEmpty := by
    rw [List.filter_map]; rfl
  rw [h1, h, List.filter_map]
  congr 1
  refine List.filter_congr fun r _ => ?_
  show (!(r.map _).isEmpty) = !r.isEmpty
  cases r <;> rfl
theorem natRows_set (C : List (List Nat)) (k : Nat) (r : List Nat) : Mp.natRows (C.set k r) = (Mp.natRows C).set k (intsOf r) := by
  unfold Mp.natRows; rw [List.map_set]; rfl
theorem rowsTo_get {c : Nat → Nat} {n t k : Nat} (hk : k < n) : (rowsTo c n t)[k]? = some (rowAt c t k) := by
  unfold rowsTo; rw [List.getElem?_map, List.getElem?_range hk]; rfl
theorem rowAt_len (c : Nat → Nat) (t k : Nat) : (rowAt c t k).length ≤ t := by
  unfold rowAt
  have := List.length_filter_le (fun s => leastOf c s == k) (List.range t)
  rwa [List.length_range] at this
end Cv

set_option maxRecDepth 10000 in
set_option maxHeartbeats 4000000 in
theorem impl_SheetParts (a : Option Addr) (c : Nat) (L : List (List Int)) (w : World) (ha : GridAt w a L) (hL : ∀ p ∈ L, p.length ≤ 1048576) (hn : L.length ≤ 1048576) :
    Calls Try.prog 59 #[.slice a L.length c] w fun e w' => GivesRows w (Cv.parts L) e w' := by
  have hcP := impl_doPermute a c L w ha hL hn
  by_cases hP : Cv.Perms L
  · rw [decide_eq_true hP] at hcP
    rw [Cv.parts_of hP]
    obtain ⟨i0, hi0, hz0, hz1, hz2⟩ := info_int_parts
    have h5 := hP.2.2.2.2
    have h1 := hP.2.2.2.1
    have hl1 := hP.2.1
    have hl8 := hP.2.2.1
    obtain ⟨r0, hr0, hr0l⟩ := Cv.head_get (L := L) (by omega)
    obtain ⟨b0, o0, a0, c0, rfl, hbw0, hcell0, _⟩ := ha.get hr0
    rw [Nat.add_zero, hr0l] at hcell0
    have i2 : 0 < L.length := by omega
    have hlt : ∀ q ∈ L, ∀ s, s < Cv.deg L → q[s]? = some ((Mp.at_ q s : Nat) : Int) ∧ Mp.at_ q s < Cv.deg L := fun q hq s hs => by
      obtain ⟨k1, k2⟩ := hP.1 q hq
      refine ⟨Mp.at_get k2 (by omega), ?_⟩
      have := Mp.at_lt k2 (d := s) (by omega); omega
    have hrl : ∀ q ∈ L, q.length = Cv.deg L := fun q hq => (hP.1 q hq).1
    obtain ⟨R, hR⟩ : ∃ R, Mp.natRows (Cv.partsN L) = R := ⟨_, rfl⟩
    rw [hR]
    unfold Cv.partsN Cv.lab at hR
    obtain ⟨n, hn0⟩ : ∃ n, n = Cv.deg L := ⟨_, rfl⟩
    rw [← hn0] at hcell0 h5 h1 hlt hrl hR
    have Hi0 := Lib.hid hi0; have Hz0 := Lib.hid hz0; have Hz1 := Lib.hid hz1; have Hz2 := Lib.hid hz2
    have Ha := Lib.hid ha; have Hc0 := Lib.hid hcell0; have Hlt := Lib.hid hlt; have Hrl := Lib.hid hrl; have HR := Lib.hid hR; have HcP := Lib.hid hcP
    have Hmk := Lib.hid (fun W => mk_rows n (by omega) W)
    clear hi0 hz0 hz1 hz2 ha hP hr0 hr0l hcell0 hlt hn0 hrl hR hcP hL
    go_enter Try.func59, Try.ntmps59
    go_wp2_with fail
    refine HcP.out.mono ?_
    rintro e w1 ⟨rfl, hb1⟩
    have Hb1 := Lib.hid hb1; clear hb1
    have c1 : w1.cell? ⟨b0, o0, none⟩ = some (.slice a0 n c0) := by rw [Hb1.out.cell hbw0]; exact Hc0.out
    go_wp2_with fail
    refine (impl_newClasses n w1 (by omega)).mono ?_
    rintro e w3 ⟨rfl, hlab, hb3⟩
    have hlt3 := hlab.lt
    have Hlab := Lib.hid hlab; have Hb3 := Lib.hid (Hb1.out.trans (hb3.mono Hb1.out.size))
    have hNw : w.heap.size ≤ w1.heap.size := Hb1.out.size
    generalize w1.heap.size = g at *
    clear hlab hb3 c1
    go_wp2
    go_loopw [5, 6, 7, 22] (fun _ _ _ iv wr => ∃ i : Nat, i ≤ L.length ∧ iv = .int .i64 i ∧ Hid (Below w.heap.size w wr) ∧ Hid (Lab wr g (Cls.mergeAll (met Cv.step1 L i 0)) n)) (fun _ _ _ iv _ => L.length - (intOf iv).toNat)
    case atStart => exact ⟨0, by omega, rfl, Hb3, Lib.hid Hlab.out⟩
    case round =>
      clear Hb3 Hlab
      obtain ⟨k, hk, rfl, hb, hun⟩ := hrel
      by_cases hltk : k < L.length
      · obtain ⟨q, hq⟩ := get_some hltk
        have hql := Hrl.out q (get_mem hq)
        have hqa := Hlt.out q (get_mem hq)
        have hnx := met_next (f := Cv.step1) hq
        rw [hql] at hnx
        have hst := fun j => met_step (f := Cv.step1) j hq
        obtain ⟨b, o, ai, ci, e0, hbw, hcell0, hrow0⟩ := Ha.out.get hq
        cases e0
        rw [hql] at hcell0
        have hcell : wr.cell? ⟨b0, o0 + k, none⟩ = some (.slice ai n ci) := by rw [hb.out.cell hbw]; exact hcell0
        have Hnx := Lib.hid hnx; have Hst := Lib.hid hst; have Hqa := Lib.hid hqa; have Hql := Lib.hid hql
        have HrowA := Lib.hid hrow0
        clear hnx hst hqa hq hql hrow0 hcell0
        have h0k : (0 : Int) ≤ (k : Int) := by omega
        have h1k : (k : Int) < (L.length : Int) := by omega
        go_wp2
        go_loopw [6, 7, 28] (fun _ _ jv wr => ∃ j : Nat, j ≤ n ∧ jv = .int .i64 j ∧ Hid (Below w.heap.size w wr) ∧ Hid (Lab wr g (Cls.mergeAll (met Cv.step1 L k j)) n)) (fun _ _ jv _ => n - (intOf jv).toNat)
        case atStart => exact ⟨0, by omega, rfl, hb, hun⟩
        case round =>
          clear hb hun
          obtain ⟨j, hj, rfl, hb, hun⟩ := hrel
          by_cases hltj : j < n
          · obtain ⟨hqj, hyn⟩ := Hqa.out j hltj
            obtain ⟨b2, o2, rfl, hbw2, hcell2⟩ := intCells_get? (HrowA.out.below hb.out) hqj
            have hm := impl_mergeClasses g n n (Cls.mergeAll (met Cv.step1 L k j)) j (Mp.at_ q j) (j : Int) ((Mp.at_ q j : Nat) : Int) rfl rfl wr hun.out hltj hyn (by omega)
            rw [show Cls.merge (Cls.mergeAll (met Cv.step1 L k j)) (j, Mp.at_ q j) = Cls.mergeAll (met Cv.step1 L k (j + 1)) by rw [Hst.out j, Cls.mergeAll_snoc]; rfl] at hm
            have Hm := Lib.hid hm
            have hgl := hun.out.lt
            generalize Mp.at_ q j = z at *
            have hj0 : (0 : Int) ≤ (j : Int) := by omega
            have hj1 : (j : Int) < (n : Int) := by omega
            clear hm hqj
            go_wp2_with fail
            refine Hm.out.mono ?_
            rintro e w4 ⟨rfl, hl4, hg4⟩
            have Hb4 := Lib.hid (Below.grown hb.out hg4 hb.out.size (fun k hk => by cases hk; exact hNw))
            have Hl4 := Lib.hid hl4
            clear hl4 hg4
            go_wp2
            go_roundw
            case rel => exact ⟨j + 1, by omega, by go_num, Hb4, Hl4⟩
            case measure => simp [intOf]; omega
          · obtain rfl : n = j := by omega
            rw [Hnx.out] at hun
            go_wp2
            go_roundw
            case rel => exact ⟨k + 1, by omega, by go_num, hb, hun⟩
            case measure => simp [intOf]; omega
      · obtain rfl : k = L.length := by omega
        rw [met_end] at hun
        have hun2 : Lab wr g (Cls.mergeAll (Cv.pairs L)) n := hun.out
        generalize Cls.mergeAll (Cv.pairs L) = f at *
        have Hun := Lib.hid hun2
        obtain ⟨wo, rfl⟩ : ∃ wo : World, wo = wr := ⟨_, rfl⟩
        have hgl := hun2.lt
        have hmk := Hmk.out wo
        have hNo : w.heap.size ≤ wo.heap.size := hb.out.size
        have hbag := Bag.start (n := n) (Nat.le_refl wo.heap.size)
        have hal := hb.out.alloc hNo (.cells (hdCells (List.replicate n ⟨none, 0, []⟩)).toArray 42)
        have hwl := Hun.out.below ((Below.refl wo.heap.size wo).alloc (Nat.le_refl _) (.cells (hdCells (List.replicate n ⟨none, 0, []⟩)).toArray 42)) hgl
        obtain ⟨G, hG⟩ : ∃ G, G = wo.heap.size := ⟨_, rfl⟩
        rw [← hG] at hmk hbag hgl hNo
        have HG := Lib.hid hG; have Hbag := Lib.hid hbag; have Hal := Lib.hid hal; have Hwl := Lib.hid hwl
        clear hun hun2 hbag hal hwl hG
        go_wp2
        clear hmk
        go_loopw [9, 10, 11, 44] (fun _ _ _ tv wr => ∃ t : Nat, t ≤ n ∧ tv = .int .i64 t ∧ Hid (Below w.heap.size w wr) ∧ Hid (Lab wr g f n) ∧ ∃ hs : List Hd, Hid (hs.map Hd.l = Mp.natRows (Cv.rowsTo f n t)) ∧ Hid (Bag wr G G hs)) (fun _ _ _ tv _ => n - (intOf tv).toNat)
        case atStart => exact ⟨0, by omega, rfl, Hal, Hwl, _, Lib.hid (by rw [Cv.rowsTo_zero]; simp [Mp.natRows]), Hbag⟩
        case round =>
          obtain ⟨t, ht, rfl, hb2, hlab2, hs, hmap, hbag⟩ := hrel
          by_cases hltt : t < n
          · obtain ⟨hcl, hll, hsp⟩ := Cv.leastOf_spec f t
            have hct := hlab2.out.cell hltt
            have hix := lib_IndexLeast (some ⟨g, 0, none⟩) n n t f wr hlab2.out.row hltt (by omega)
            have hset := Cv.rowsTo_succ f n t
            have hkn : Cv.leastOf f t < n := by omega
            have hget := Cv.rowsTo_get (c := f) (t := t) hkn
            have hrl := Cv.rowAt_len f t (Cv.leastOf f t)
            generalize Cv.leastOf f t = k at *
            generalize Cv.rowAt f t k = r at *
            have hgm : (hs.map Hd.l)[k]? = some (intsOf r) := by rw [hmap.out]; unfold Mp.natRows; rw [List.getElem?_map, hget]; rfl
            rw [List.getElem?_map] at hgm
            obtain ⟨x, hx, hxl⟩ := Option.map_eq_some_iff.1 hgm
            have hxll : x.l.length = r.length := by rw [hxl, intsOf_len]
            have hcx := hbag.out.cell hx
            have hox := hbag.out.own x (get_mem hx)
            have hfz := hbag.out.blk.frozen k
            have hpush := fun (v1 : Value) (w1 : World) (h1 : w1.ownsRow G 3 1 v1 (x.l.length + 1) (intCells x.l ++ [.int .i64 (t : Int)])) (h2 : (wr.alloc (.cells #[.int .i64 (t : Int)] 3)).grownBy w1 (Value.slice x.a x.l.length x.c).ownBlock) (h3 : v1.ownBlock = (Value.slice x.a x.l.length x.c).ownBlock ∨ v1.ownBlock = some (wr.alloc (.cells #[.int .i64 (t : Int)] 3)).heap.size) => hbag.out.push hx h1 h2 h3
            have hGG := hbag.out.blk.lt
            have hbk := hbag.out.blk
            have hGo := hbk.other hox (by decide)
            have hm1 : x.l.length + 1 ≤ maxLen := by unfold maxLen; omega
            have hm2 : (x.l.length + 1) * 8 ≤ 140737488355328 := by omega
            have hN2 : G ≤ wr.heap.size := Nat.le_of_lt hGG
            have hnx : ∀ h' : Hd, h'.l = x.l ++ [(t : Int)] → (hs.set k h').map Hd.l = Mp.natRows (Cv.rowsTo f n (t + 1)) := fun h' e => by
              rw [hset, Cv.natRows_set, ← hmap.out, List.map_set, e, hxl, intsOf_snoc]
            have hlt2 : k < hs.length := (List.getElem?_eq_some_iff.1 hx).1
            have hval : x.val = .slice x.a x.l.length x.c := rfl
            have hdst : ∀ W, Blk W G 42 (hdCells hs).toArray → W.cell? ⟨G, k, none⟩ = some (.slice x.a x.l.length x.c) := fun W h => by rw [h.cell k, ← hbk.cell k]; exact hcx
            have Hdst := Lib.hid hdst
            clear hdst
            rw [hval] at hcx hox hGo
            have Hix := Lib.hid hix; have Hpush := Lib.hid hpush; have Hnx := Lib.hid hnx; have Hox := Lib.hid hox; have Hbk := Lib.hid hbk; have Hgo := Lib.hid hGo
            have k0 : (0 : Int) ≤ (k : Int) := by omega
            have k1 : (k : Int) < (n : Int) := by omega
            have t0 : (0 : Int) ≤ (t : Int) := by omega
            have t1 : (t : Int) < (n : Int) := by omega
            clear hix hpush hnx hox hbk hGo hset hget hgm hx hxl hcl hsp hval hmap hxll
            generalize x.l.length = xl at *
            go_wp2_with fail
            refine Hix.out.mono ?_
            rintro e w4 ⟨rfl, hw4⟩
            rw [hw4]; clear hw4 w4
            go_wp2_with (at_builtin; refine append_one_new rfl (.tmp 57) (.tmp 59) 42 rfl G 3 i0 _ 8 Try.underlying42 Hi0.out Hz0.out Hz1.out Hz2.out (by rfl) _ _ _ rfl Hox.out (by rfl) _ rfl hm1 hm2 hN2 ?_; intro v1 w1 hown1 hg1 hn1; obtain ⟨a1, c1, rfl⟩ := own_len hown1; have hbk1 := (Hbk.out.alloc (.cells #[.int .i64 (t : Int)] 3)).grown hg1 (fun e => Hgo.out e.symm); have hdst := Hdst.out w1 hbk1; have hfz1 := hbk1.frozen k; have Hown1 := Lib.hid hown1; have Hg1 := Lib.hid (show (wr.alloc (.cells #[.int .i64 (t : Int)] 3)).grownBy w1 (Value.slice x.a xl x.c).ownBlock from hg1); have Hn1 := Lib.hid (show (Value.slice a1 (xl + 1) c1).ownBlock = (Value.slice x.a xl x.c).ownBlock ∨ (Value.slice a1 (xl + 1) c1).ownBlock = some (wr.alloc (.cells #[.int .i64 (t : Int)] 3)).heap.size from hn1); clear hown1 hg1 hn1 hbk1)
            go_roundw
            case rel =>
              obtain ⟨h', e1, e2, hB⟩ := Hpush.out _ w1 Hown1.out Hg1.out Hn1.out
              refine ⟨t + 1, by omega, by go_num, Lib.hid (Below.setCell (Below.grown (hb2.out.alloc hb2.out.size _) Hg1.out (by have := hb2.out.size; simp; omega) (fun q hq => Nat.le_trans hNo (Hox.out.lt q hq).1)) hNo _), Lib.hid ?_, hs.set k h', Lib.hid (Hnx.out h' e1), Lib.hid hB⟩
              exact hlab2.out.below (((Below.refl G wr).alloc hN2 _ |>.grown Hg1.out (by simp; omega) (fun q hq => (Hox.out.lt q hq).1)).setCell (Nat.le_refl G) _) hgl
            case measure => simp [intOf]; omega
          · obtain rfl : n = t := by omega
            have hlen : hs.length = n := by have := congrArg List.length hmap.out; rw [List.length_map, Mp.natRows_len] at this; unfold Cv.rowsTo at this; simpa using this
            have hD := lib_DeleteEmpty G hs wr hbag.out.blk (by omega)
            rw [hlen] at hD
            have hfin := Cv.intsOf_filter_rows f n hmap.out
            rw [HR.out] at hfin
            have Hfin := Lib.hid hfin; have HD := Lib.hid hD
            have hRl : R.length = (hs.filter Hd.some).length := by rw [← Hfin.out, List.length_map]
            have hRn : R.length ≤ n := by rw [hRl, ← hlen]; exact List.length_filter_le _ _
            have HRl := Lib.hid hRl
            clear hD hfin hlen hRl
            go_wp2_with fail
            refine HD.out.mono ?_
            rintro e w5 ⟨rfl, hg5, all, hb5, hc5⟩
            have hgr := hbag.out.grid hg5 hb5 hc5
            rw [Hfin.out] at hgr
            have hbw := Below.grown hb2.out hg5 hb2.out.size (fun k hk => by cases hk; exact hNo)
            have Hgr := Lib.hid hgr; have Hbw := Lib.hid hbw
            clear hgr hbw hg5 hb5 hc5
            go_wp2
            go_ret
            exact ⟨_, n, by rw [HRl.out]; rfl, hRn, by unfold maxLen; omega, Hgr.out.mono hNo (Nat.le_refl _), Hbw.out⟩
  · rw [decide_eq_false hP] at hcP
    rw [Cv.parts_not hP]
    have HcP := Lib.hid hcP
    clear hcP hL hP ha
    go_enter Try.func59, Try.ntmps59
    go_wp2_with fail
    refine HcP.out.mono ?_
    rintro e w1 ⟨rfl, hb1⟩
    have Hb1 := Lib.hid hb1; clear hb1
    go_wp2
    go_ret
    exact GivesRows.none Hb1.out
end Go.Proofs.Ytodgongemoabiaa
namespace Go.Proofs.Ytodgongemoabiaa
open Go.RowKit

set_option maxRecDepth 10000 in
set_option maxHeartbeats 1000000 in
theorem impl_follow (B n ci d : Nat) (ai : Option Addr) (f : Nat → Nat) (W : World) (hd : d < n) (c0 : W.cell? ⟨B, 0, none⟩ = some (.slice ai n ci)) (hr : RowAt W ai (intCells (Cls.row f n))) :
    Calls Try.prog 182 #[.int .i64 (d : Int), .pointer (some ⟨B, 0, none⟩)] W fun e W' => e = .returned (.int .i64 ((f d : Nat) : Int)) ∧ W' = W := by
  obtain ⟨b, o, rfl, hb, hc⟩ := intCells_get? hr (Cls.row_get hd)
  have h0 : (0 : Int) ≤ (d : Int) := by omega
  have h1 : (d : Int) < (n : Int) := by omega
  generalize ((f d : Nat) : Int) = v at *
  clear hr
  go_enter Try.func182, Try.ntmps182
  go_wp2
  go_ret
  exact ⟨rfl, rfl⟩

namespace Cv
theorem cycIn_take {f : Nat → Nat} {n i m : Nat} {ms : List Nat} (h : ms[i]? = some m) : cycIn f n (ms.take (i + 1)) = Mp.cycStep f n (cycIn f n (ms.take i)) m := by
  obtain ⟨hi, rfl⟩ := List.getElem?_eq_some_iff.1 h
  rw [List.take_succ_eq_append_getElem hi, cycIn_snoc]
theorem step_skip {f : Nat → Nat} {n m : Nat} {st : (Nat → Bool) × List (List Nat)} (h : Mp.cyc f (n + 1) st.1 m = []) : Mp.cycStep f n st m = st := by unfold Mp.cycStep; rw [if_pos h]
theorem step_more {f : Nat → Nat} {n m : Nat} {st : (Nat → Bool) × List (List Nat)} {c : List Nat} (h : Mp.cyc f (n + 1) st.1 m = c) (h0 : c ≠ []) : Mp.cycStep f n st m = (Mp.seen st.1 c, st.2 ++ [c]) := by
  unfold Mp.cycStep; rw [if_neg (by rw [h]; exact h0), h]
theorem cycIn_len (f : Nat → Nat) (n : Nat) (ms : List Nat) : (cycIn f n ms).2.length ≤ ms.length := by
  refine Cls.snoc_ind (p := fun ms => (cycIn f n ms).2.length ≤ ms.length) (Nat.le_refl _) (fun l m ih => ?_) ms
  rw [cycIn_snoc]
  by_cases h : Mp.cyc f (n + 1) (cycIn f n l).1 m = []
  · rw [step_skip h, List.length_append]; exact Nat.le_trans ih (by omega)
  · rw [step_more rfl h, List.length_append, List.length_append]; simp; omega
end Cv

set_option maxRecDepth 10000 in
set_option maxHeartbeats 4000000 in
theorem impl_cyclesAmong (am ai : Option Addr) (cm ci B n : Nat) (ms : List Nat) (f : Nat → Nat) (w : World) (hm : RowAt w am (intCells (intsOf ms))) (hB : B < w.heap.size) (c0 : w.cell? ⟨B, 0, none⟩ = some (.slice ai n ci)) (hr : RowAt w ai (intCells (Cls.row f n)))
    (hms : ∀ m ∈ ms, m < n) (hf : ∀ d, d < n → f d < n) (hn : n ≤ 24) (hl : ms.length ≤ 24) :
    Calls Try.prog 181 #[.slice am ms.length cm, .func (.func 182) #[] #[.pointer (some ⟨B, 0, none⟩)]] w fun e w' => GivesRows w (Mp.natRows (Cv.cycIn f n ms).2) e w' := by
  obtain ⟨i0, hi0, hz0, hz1, hz2⟩ := info_int_parts
  obtain ⟨j0, hj0, hy0, hy1, hy2⟩ := info_ints_parts
  have hfol := fun d W (hb : Below w.heap.size w W) (hd : d < n) => impl_follow B n ci d ai f W hd (by rw [hb.cell (p := ⟨B, 0, none⟩) hB]; exact c0) (hr.below hb)
  obtain ⟨R, hR⟩ : ∃ R, Mp.natRows (Cv.cycIn f n ms).2 = R := ⟨_, rfl⟩
  rw [hR]
  have Hi0 := Lib.hid hi0; have Hz0 := Lib.hid hz0; have Hz1 := Lib.hid hz1; have Hz2 := Lib.hid hz2
  have Hj0 := Lib.hid hj0; have Hy0 := Lib.hid hy0; have Hy1 := Lib.hid hy1; have Hy2 := Lib.hid hy2
  have Hm := Lib.hid hm; have Hms := Lib.hid hms; have Hf := Lib.hid hf; have Hfol := Lib.hid hfol; have HR := Lib.hid hR
  clear hi0 hz0 hz1 hz2 hj0 hy0 hy1 hy2 hm hms hf hfol hR c0 hr
  obtain ⟨N, hN⟩ : ∃ N, N = w.heap.size := ⟨_, rfl⟩
  have HN := Lib.hid hN
  rw [← hN] at Hfol
  clear hN
  go_enter Try.func181, Try.ntmps181
  go_wp2
  go_loopw [5, 6, 8, 9, 10, 13] (fun ov sv _ _ _ iv wr => ∃ i : Nat, i ≤ ms.length ∧ iv = .int .i64 i ∧ Hid (Below N w wr) ∧ ∃ (sh : Hd) (hs : List Hd) (sl : List Nat), sv = sh.val ∧ Hid (sh.l = intsOf sl) ∧ Hid (sl.length ≤ i * 24) ∧ Hid (∀ x, (Cv.cycIn f n (ms.take i)).1 x = decide (x ∈ sl)) ∧
      Hid (hs.map Hd.l = Mp.natRows (Cv.cycIn f n (ms.take i)).2) ∧ Hid (wr.ownsRow N 42 1 ov hs.length (hdCells hs)) ∧ Hid (Rws wr N (sh :: hs))) (fun _ _ _ _ _ iv _ => ms.length - (intOf iv).toNat)
  case atStart => exact ⟨0, by omega, rfl, Lib.hid (by rw [HN.out]; exact Below.refl _ _), Hd.none, [], [], rfl, Lib.hid rfl, Lib.hid (Nat.zero_le _), Lib.hid (fun x => by simp [Cv.cycIn]), Lib.hid rfl, Lib.hid (World.ownsRow_nil _ _ _ _), Lib.hid (Rws.nil.none)⟩
  case round =>
    obtain ⟨i, hi, rfl, hb, sh, hs, sl, rfl, hsl, hsn, hseen, hmap, hown, hrws⟩ := hrel
    by_cases hlt : i < ms.length
    · obtain ⟨m, hm⟩ := get_some hlt
      have hmn := Hms.out m (get_mem hm)
      obtain ⟨b, o, rfl, hbw, hcell⟩ := intCells_get? (Hm.out.below (by rw [← HN.out]; exact hb.out)) (intsOf_get hm)
      have htk := Cv.cycIn_take (f := f) (n := n) hm
      have hcl := Cv.cycIn_len f n (ms.take i)
      rw [List.length_take] at hcl
      have hhl : hs.length = (Cv.cycIn f n (ms.take i)).2.length := by have := congrArg List.length hmap.out; rwa [List.length_map, Mp.natRows_len] at this
      have hhs : hs.length ≤ 24 := by omega
      generalize hst : Cv.cycIn f n (ms.take i) = st at *
      have hsf : st.1 = fun x => decide (x ∈ sl) := funext hseen.out
      have Htk := Lib.hid htk; have Hst := Lib.hid hst; have Hsf := Lib.hid hsf
      have hNw : N ≤ wr.heap.size := by have := hb.out.size; have := HN.out; omega
      have hcell' : wr.cell? ⟨b, o + i, none⟩ = some (.int .i64 (m : Int)) := hcell
      clear htk hst hsf hcl hhl hm hcell
      obtain ⟨ova, ovc, rfl⟩ := own_len hown.out
      obtain ⟨wo, rfl⟩ : ∃ wo : World, wo = wr := ⟨_, rfl⟩
      have hmid := Mp.Mid.start f (fun x => decide (x ∈ sl)) hmn
      have Hmid := Lib.hid hmid
      have Hr0 := Lib.hid (show Rws wo N (Hd.none :: sh :: hs) from hrws.out.none)
      clear hmid hrws
      have hsnl := hsn.out
      go_wp2
      go_loopw [6, 9, 10] (fun sv cv dv wr => ∃ d : Nat, dv = .int .i64 d ∧ ∃ (cc : List Nat) (s2 c2 : Hd), sv = s2.val ∧ (∃ a c, cv = .slice a cc.length c) ∧ cv = c2.val ∧ Hid (s2.l = intsOf (sl ++ cc)) ∧ Hid (c2.l = intsOf cc) ∧ Hid (Mp.Mid f n (fun x => decide (x ∈ sl)) m cc d) ∧ Hid (Below N w wr) ∧ Hid (Rws wr N (c2 :: s2 :: hs)) ∧ Hid (wr.ownsRow N 42 1 (.slice ova hs.length ovc) hs.length (hdCells hs))) (fun _ cv _ _ => n + 1 - vLen cv)
      case atStart => exact ⟨m, rfl, [], sh, Hd.none, rfl, ⟨_, _, rfl⟩, rfl, Lib.hid (by rw [List.append_nil]; exact hsl.out), Lib.hid rfl, Hmid, hb, Hr0, hown⟩
      case round =>
        clear hb hown Hr0 Hmid hsl hcell'
        obtain ⟨d, rfl, cc, s2, c2, rfl, ⟨ca, ccp, hcv⟩, rfl, hs2, hc2, hmid, hb, hr, hown⟩ := hrel
        have hd := hmid.out.dlt
        have hccl := hmid.out.len
        obtain ⟨sa, sc, hse, hsr⟩ := hr.out.swap.row
        have hs2l : s2.l.length = sl.length + cc.length := by rw [hs2.out, intsOf_len, List.length_append]
        have hc2l : c2.l.length = cc.length := by rw [hc2.out, intsOf_len]
        have hcon := lib_Contains sa sc s2.l (d : Int) wr hsr (by rw [hs2l]; omega)
        have hseen2 : decide (((d : Nat) : Int) ∈ s2.l) = Mp.seen (fun x => decide (x ∈ sl)) cc d := by
          rw [hs2.out]
          unfold Mp.seen
          rw [Bool.eq_iff_iff, decide_eq_true_iff, Bool.or_eq_true, decide_eq_true_iff, decide_eq_true_iff, intsOf_mem, List.mem_append]
          exact Or.comm
        rw [hseen2] at hcon
        have hNw2 : N ≤ wr.heap.size := by have := hb.out.size; have := HN.out; omega
        by_cases hsd : Mp.seen (fun x => decide (x ∈ sl)) cc d = true
        · rw [hsd] at hcon
          have hstop := hmid.out.stop hsd
          have Hcon := Lib.hid hcon; have Hstop := Lib.hid hstop
          rw [hse]
          clear hcon hstop hseen2 hsd hsr
          by_cases hc0 : cc.length = 0
          · have hnil : cc = [] := List.eq_nil_of_length_eq_zero hc0
            have Hnil := Lib.hid hnil
            have hcv0 : c2.val = .slice ca 0 ccp := by rw [hcv, hc0]
            rw [hcv0]
            have Hse := Lib.hid hse
            clear hnil hc0 hcv hcv0 hs2l hc2l hse
            generalize s2.l.length = s2n at *
            go_wp2_with fail
            refine Hcon.out.mono ?_
            rintro e w3 ⟨rfl, hw3⟩
            rw [hw3]; clear hw3 w3
            go_wp2
            go_roundw
            case rel =>
              refine ⟨i + 1, by omega, by go_num, hb, s2, hs, sl, Hse.out.symm, Lib.hid (by rw [hs2.out, Hnil.out, List.append_nil]), Lib.hid (by omega), Lib.hid (fun x => ?_), Lib.hid ?_, hown, Lib.hid hr.out.tail⟩
              · rw [Htk.out, Cv.step_skip (by rw [Hsf.out, Hstop.out, Hnil.out]), Hsf.out]
              · rw [Htk.out, Cv.step_skip (by rw [Hsf.out, Hstop.out, Hnil.out])]; exact hmap.out
            case measure => simp [intOf]; omega
          · have hc1 : (0 : Int) < (cc.length : Int) := by omega
            have Hne := Lib.hid (show cc ≠ [] from fun e => hc0 (by rw [e]; rfl))
            have hm1 : hs.length + 1 ≤ maxLen := by unfold maxLen; omega
            have hm2 : (hs.length + 1) * 24 ≤ 140737488355328 := by omega
            have hca : c2.a = ca ∧ c2.c = ccp := by unfold Hd.val at hcv; injection hcv with h1 h2 h3; exact ⟨h1, h3⟩
            rw [hcv]
            have Hse := Lib.hid hse; have Hca := Lib.hid hca; have Hc2l := Lib.hid hc2l
            clear hc0 hcv hs2l hc2l hse hca
            generalize s2.l.length = s2n at *
            go_wp2_with fail
            refine Hcon.out.mono ?_
            rintro e w3 ⟨rfl, hw3⟩
            rw [hw3]; clear hw3 w3
            go_wp2_with (at_builtin; refine append_one rfl (.tmp 36) (.tmp 38) 24 rfl N 42 j0 _ 24 Try.underlying24 Hj0.out Hy0.out Hy1.out Hy2.out (by rfl) _ _ _ rfl hown.out (by rfl) _ rfl hm1 hm2 hNw2 ?_; intro v1 w1 hown1 hg1 _)
            go_roundw
            case rel =>
              have hvv : Value.slice ca cc.length ccp = c2.val := by unfold Hd.val; rw [Hca.out.1, Hca.out.2, Hc2l.out]
              have hg1' : (wr.alloc (.cells #[.slice ca cc.length ccp] 42)).grownBy w1 (Value.slice ova hs.length ovc).ownBlock := hg1
              have hr1 := (hr.out.alloc (.cells #[.slice ca cc.length ccp] 42)).grown (hown.out.alloc _) (by decide) hg1'
              refine ⟨i + 1, by omega, by go_num, Lib.hid (Below.grown (hb.out.alloc hNw2 _) hg1 (by simp; omega) (fun k hk => (hown.out.lt k hk).1)), s2, hs ++ [c2], sl ++ cc, Hse.out.symm, Lib.hid hs2.out, Lib.hid (by rw [List.length_append]; omega), Lib.hid (fun x => ?_), Lib.hid ?_, Lib.hid ?_, Lib.hid ?_⟩
              · rw [Htk.out, Cv.step_more (by rw [Hsf.out]; exact Hstop.out) Hne.out, Hsf.out]
                show Mp.seen (fun y => decide (y ∈ sl)) cc x = decide (x ∈ sl ++ cc)
                unfold Mp.seen
                rw [Bool.eq_iff_iff, decide_eq_true_iff, Bool.or_eq_true, decide_eq_true_iff, decide_eq_true_iff, List.mem_append]
                exact Or.comm
              · rw [Htk.out, Cv.step_more (by rw [Hsf.out]; exact Hstop.out) Hne.out, List.map_append, hmap.out, Mp.natRows_snoc]
                show _ ++ [c2.l] = _
                rw [hc2.out]
              · rw [← hdCells_snoc, List.length_append, ← hvv]; exact hown1
              · refine hr1.perm ?_
                refine (List.Perm.swap s2 c2 hs).trans ((List.perm_append_singleton c2 hs).symm.cons s2)
            case measure => simp [intOf]; omega
        · have hsd : Mp.seen (fun x => decide (x ∈ sl)) cc d = false := by simpa using hsd
          rw [hsd] at hcon
          have hstep := hmid.out.step hsd (Hf.out d hd)
          have Hcon := Lib.hid hcon; have Hstep := Lib.hid hstep
          have hos := hr.out.swap.head
          have hoc := hr.out.head
          rw [hse, hs2l] at hos
          rw [hcv, hc2l] at hoc
          have hpush := fun v1 w1 h1 h2 h3 => hr.out.swap.push (v1 := v1) (w1 := w1) (x := (d : Int)) h1 h2 h3
          rw [hse, hs2l] at hpush
          have hvs : s2.val = .slice sa (sl.length + cc.length) sc := by rw [hse, hs2l]
          rw [hs2l] at Hcon
          rw [hvs, hcv]
          have Hos := Lib.hid hos; have Hoc := Lib.hid hoc; have Hpush := Lib.hid hpush
          have hm1 : sl.length + cc.length + 1 ≤ maxLen := by unfold maxLen; omega
          have hm2 : (sl.length + cc.length + 1) * 8 ≤ 140737488355328 := by omega
          have hm3 : cc.length + 1 ≤ maxLen := by unfold maxLen; omega
          have hm4 : (cc.length + 1) * 8 ≤ 140737488355328 := by omega
          have Hcv := Lib.hid hcv; have Hc2l := Lib.hid hc2l
          clear hcon hstep hseen2 hsd hsr hse hs2l hos hoc hpush hvs hcv hc2l
          go_wp2_with fail
          refine Hcon.out.mono ?_
          rintro e w3 ⟨rfl, hw3⟩
          rw [hw3]; clear hw3 w3
          go_wp2_with (first
            | (at_builtin; refine append_one_new rfl (.tmp 25) (.tmp 27) 42 rfl N 3 i0 _ 8 Try.underlying42 Hi0.out Hz0.out Hz1.out Hz2.out (by rfl) _ _ _ rfl Hos.out (by rfl) _ rfl hm1 hm2 hNw2 ?_; intro v1 w1 hown1 hg1 hn1
               have hg1' : (wr.alloc (.cells #[.int .i64 (d : Int)] 3)).grownBy w1 (Value.slice sa (sl.length + cc.length) sc).ownBlock := hg1
               obtain ⟨s3, e1, rfl, hr3⟩ := Hpush.out v1 w1 hown1 hg1' hn1
               have hB1 := Below.grown (hb.out.alloc hNw2 _) hg1' (by simp; omega) (fun k hk => (Hos.out.lt k hk).1)
               have hN1 : N ≤ w1.heap.size := by have := hg1'.size; simp at this; omega
               have hoc1 := hr3.swap.head
               rw [Hcv.out, Hc2l.out] at hoc1
               have hpush1 := fun v2 w2 h1 h2 h3 => hr3.swap.push (v1 := v2) (w1 := w2) (x := (d : Int)) h1 h2 h3
               rw [Hcv.out, Hc2l.out] at hpush1
               have hown2 := own_types (hown.out.alloc (.cells #[.int .i64 (d : Int)] 3)) (Hos.out.alloc _) (by decide) hg1'
               have HB1 := Lib.hid hB1; have Hoc1 := Lib.hid hoc1; have Hpush1 := Lib.hid hpush1; have Hown2 := Lib.hid hown2; have He1 := Lib.hid e1
               clear hown1 hg1 hn1 hg1' hB1 hoc1 hpush1 hown2 e1 hr3)
            | (at_builtin; refine append_one_new rfl (.tmp 29) (.tmp 31) 42 rfl N 3 i0 _ 8 Try.underlying42 Hi0.out Hz0.out Hz1.out Hz2.out (by rfl) _ _ _ rfl Hoc1.out (by rfl) _ rfl hm3 hm4 hN1 ?_; intro v2 w2 hown3 hg3 hn3
               have hg3' : (w1.alloc (.cells #[.int .i64 (d : Int)] 3)).grownBy w2 (Value.slice ca cc.length ccp).ownBlock := hg3
               obtain ⟨c3, e3, rfl, hr4⟩ := Hpush1.out v2 w2 hown3 hg3' hn3
               have hB2 := Below.grown (HB1.out.alloc hN1 _) hg3' (by simp; omega) (fun k hk => (Hoc1.out.lt k hk).1)
               have hown4 := own_types (Hown2.out.alloc (.cells #[.int .i64 (d : Int)] 3)) (Hoc1.out.alloc _) (by decide) hg3'
               have HB2 := Lib.hid hB2; have Hown4 := Lib.hid hown4; have He3 := Lib.hid e3; have Hr4 := Lib.hid hr4
               clear hown3 hg3 hn3 hg3' hB2 hown4 e3 hr4)
            | (refine (Hfol.out d _ HB2.out hd).mono ?_
               rintro e w3 ⟨rfl, hw3⟩
               rw [hw3]; clear hw3 w3))
          go_roundw
          case rel => exact ⟨f d, rfl, cc ++ [d], s3, c3, rfl, ⟨c3.a, c3.c, by unfold Hd.val; rw [He3.out, hc2.out, List.length_append, intsOf_len, List.length_append]; rfl⟩, rfl, Lib.hid (by rw [He1.out, hs2.out, ← List.append_assoc, intsOf_snoc]), Lib.hid (by rw [He3.out, hc2.out, intsOf_snoc]), Hstep, HB2, Hr4, Hown4⟩
          case measure =>
            have : vLen c3.val = cc.length + 1 := by show c3.l.length = _; rw [He3.out, hc2.out, List.length_append, intsOf_len]; rfl
            rw [this]; simp [vLen]; omega
    · obtain rfl : i = ms.length := by omega
      rw [List.take_of_length_le (Nat.le_refl _)] at hmap
      obtain ⟨ga, gc, rfl, hgc, hgm, hgrid⟩ := hrws.out.tail.grid hown.out (Nat.le_refl _)
      rw [hmap.out, HR.out] at hgrid
      have hRl : hs.length = R.length := by rw [← HR.out, ← hmap.out, List.length_map]
      have Hgrid := Lib.hid hgrid; have HRl := Lib.hid hRl
      clear hgrid hRl
      generalize hs.length = hl' at *
      go_wp2
      go_ret
      refine ⟨ga, gc, by rw [← HRl.out]; rfl, by rw [← HRl.out]; exact hgc, hgm, by rw [← HN.out]; exact Hgrid.out, by rw [← HN.out]; exact hb.out⟩
set_option maxRecDepth 10000 in
set_option maxHeartbeats 1000000 in
theorem impl_sheetCycles (ai am : Option Addr) (ci cm n : Nat) (ms : List Nat) (f : Nat → Nat) (w : World) (hr : RowAt w ai (intCells (Cls.row f n))) (hm : RowAt w am (intCells (intsOf ms)))
    (hms : ∀ m ∈ ms, m < n) (hf : ∀ d, d < n → f d < n) (hn : n ≤ 24) (hl : ms.length ≤ 24) :
    Calls Try.prog 147 #[.slice ai n ci, .slice am ms.length cm] w fun e w' => GivesRows w (Mp.natRows (Cv.cycIn f n ms).2) e w' := by
  have hbA : Below w.heap.size w (w.alloc (.cells #[.slice ai n ci] 42)) := (Below.refl _ _).alloc (Nat.le_refl _) _
  have hK : Blk (w.alloc (.cells #[.slice ai n ci] 42)) w.heap.size 42 #[.slice ai n ci] := Blk.new w _ _
  have Hc := Lib.hid (impl_cyclesAmong am ai cm ci w.heap.size n ms f (w.alloc (.cells #[.slice ai n ci] 42)) (hm.below hbA) hK.lt (by rw [hK.cell 0]; rfl) (hr.below hbA) hms hf hn hl)
  have HA := Lib.hid hbA
  generalize Mp.natRows (Cv.cycIn f n ms).2 = R at *
  clear hr hm hms hf hbA hK
  go_enter Try.func147, Try.ntmps147
  go_wp2_with fail
  refine Hc.out.mono ?_
  rintro e w3 hg
  have Hg := Lib.hid (hg.later HA.out)
  obtain ⟨a, c, rfl, _⟩ := hg
  go_wp2
  go_ret
  exact Hg.out
end Go.Proofs.Ytodgongemoabiaa
namespace Go.Proofs.Ytodgongemoabiaa
open Go.RowKit

namespace Cv
theorem cycFold_few (f : Nat → Nat) (n : Nat) : ∀ (ms : List Nat) (st : (Nat → Bool) × List (List Nat)), (ms.foldl (Mp.cycStep f n) st).2.length ≤ st.2.length + ms.length
  | [], _ => Nat.le_refl _
  | m :: ms, st => by
    refine Nat.le_trans (cycFold_few f n ms (Mp.cycStep f n st m)) ?_
    have : (Mp.cycStep f n st m).2.length ≤ st.2.length + 1 := by
      unfold Mp.cycStep
      split
      · omega
      · simp
    simp only [List.length_cons]; omega
theorem cycIn_few (f : Nat → Nat) (n : Nat) (ms : List Nat) : (cycIn f n ms).2.length ≤ ms.length := by
  have := cycFold_few f n ms (fun _ => false, [])
  simpa [cycIn] using this
theorem rimIn_few (L : List (List Int)) (ms : List Nat) : rimIn L ms ≤ ms.length := cycIn_few _ _ _
end Cv

theorem surf_load {w : World} {g : Nat} {x y z : Value} (h : Blk w g 88 #[x, y, z]) : (loadVar 88 ⟨g, 0, none⟩).run Try.prog w = .ok (.agg #[x, y, z]) w :=
  run_loadVar_row w g _ _ #[x, y, z] (0, 0) _ h Try.underlying88 rfl (by kernel_rfl)
set_option maxRecDepth 10000 in
set_option maxHeartbeats 2000000 in
theorem impl_coverOfPart (g : Int) (a am : Option Addr) (c cm : Nat) (L : List (List Int)) (ms : List Nat) (w : World) (ha : GridAt w a L) (hact : Cv.Act g L) (hm0 : RowAt w am (intCells (intsOf ms))) (hms : ∀ m ∈ ms, m < Cv.deg L) (hl : ms.length ≤ 5) :
    Calls Try.prog 144 #[.int .i64 g, .slice a L.length c, .slice am ms.length cm] w fun e w' => e = .returned (.agg #[.int .i64 (Cv.coverOf g L ms).1, .int .i64 (Cv.coverOf g L ms).2.1, .int .i64 (Cv.coverOf g L ms).2.2]) ∧ Below w.heap.size w w' := by
  have hS := fun W => impl_surfaceBelow g W
  have hP := hact.2.1
  have Hk0 := Lib.hid (Blk.new w 88 #[.int .i64 0, .int .i64 0, .int .i64 0])
  have Hb0 := Lib.hid ((Below.refl w.heap.size w).alloc (Nat.le_refl _) (.cells #[.int .i64 0, .int .i64 0, .int .i64 0] 88))
  by_cases h0 : g = 0
  · subst h0
    rw [show Cv.below 0 = (1, 0, 1) from rfl] at hS
    have hA := fun W (hb : Below w.heap.size w W) => impl_actAround 0 a c L W (by decide) (ha.below hb) (fun p hp => by have := (hP.1 p hp).1; have := hP.2.2.2.2; omega) (by have := hP.2.2.1; omega)
    have hrim : Cv.rimW 0 = [1, 2, -1, -2] := by decide
    have h2 : 2 ≤ L.length := by have := hact.2.2.1; omega
    have hok : Cv.actW L (Cv.rimW 0) = Cls.row (Cv.rim L) (Cv.deg L) := by
      rw [Cv.actW_of (Cv.ok_upto.2 ⟨hP, Cv.rimW_fits (by decide) hact.2.2.1⟩), hrim]; rfl
    rw [hok] at hA
    have hC := fun W (hb : Below w.heap.size w W) (ai : Option Addr) (ci : Nat) (hr : RowAt W ai (intCells (Cls.row (Cv.rim L) (Cv.deg L)))) => impl_sheetCycles ai am ci cm (Cv.deg L) ms (Cv.rim L) W hr (hm0.below hb) hms (fun d hd => Cv.act_lt hP (Cv.rim_lets h2) hd) (by have := hP.2.2.2.2; omega) (by omega)
    have hn : (Mp.natRows (Cv.cycIn (Cv.rim L) (Cv.deg L) ms).2).length = Cv.rimIn L ms := by simp [Mp.natRows, Cv.rimIn]
    have hv : Cv.coverOf 0 L ms = ((2 + (ms.length : Int) - (Cv.rimIn L ms : Int)) / 2, 0, (Cv.rimIn L ms : Int)) := if_pos rfl
    rw [hv]
    have hb := Cv.rimIn_few L ms
    have hrl : (Cls.row (Cv.rim L) (Cv.deg L)).length = Cv.deg L := Cls.row_len _ _
    generalize Cv.rimIn L ms = B at *
    have hB5 : B ≤ 5 := by omega
    have he0 := fun W => impl_EulerNumber 0 0 (B : Int) W (by intro x hx; simp at hx; omega)
    have he1 := fun W => impl_EulerNumber 1 0 1 W (by intro x hx; simp at hx; omega)
    rw [show Surf.euler 0 0 (B : Int) = 2 - (B : Int) by unfold Surf.euler; rw [if_pos ⟨by decide, by decide, by omega, Or.inl rfl⟩]; omega] at he0
    rw [show Surf.euler 1 0 1 = -1 by decide] at he1
    obtain ⟨E, hE⟩ : ∃ E : Int, E = -1 := ⟨_, rfl⟩
    rw [← hE] at he1
    obtain ⟨Z, hZ⟩ : ∃ Z, (ms.length : Int) * E = Z := ⟨_, rfl⟩
    obtain ⟨H, hH⟩ : ∃ H, (2 + (ms.length : Int) - (B : Int)) / 2 = H := ⟨_, rfl⟩
    obtain ⟨T, hT⟩ : ∃ T, 2 + (ms.length : Int) - (B : Int) = T := ⟨_, rfl⟩
    obtain ⟨F, hF⟩ : ∃ F, 2 - (B : Int) = F := ⟨_, rfl⟩
    have hZm : Z = -(ms.length : Int) := by rw [← hZ, hE]; omega
    have hm : IntKind.i64.wrap ((ms.length : Int) * E) = Z := by rw [hZ]; exact wrap_small (by omega) (by omega)
    have hs : IntKind.i64.wrap (F - Z) = T := by rw [show F - Z = T by omega]; exact wrap_small (by omega) (by omega)
    have t0 : (0 : Int) ≤ T := by omega
    have t1 : T ≤ 12 := by omega
    rw [hT] at hH
    have hd : T.tdiv 2 = H := by rw [Int.tdiv_eq_ediv_of_nonneg t0]; exact hH
    have q0 : (0 : Int) ≤ H := by omega
    have q1 : H ≤ 6 := by omega
    have hwH : IntKind.i64.wrap H = H := wrap_small (by omega) (by omega)
    rw [hF] at he0
    rw [hT, hH]
    have b0 : (0 : Int) ≤ (B : Int) := by omega
    have b1 : (B : Int) ≤ 5 := by omega
    generalize Mp.natRows (Cv.cycIn (Cv.rim L) (Cv.deg L) ms).2 = R at *
    generalize Cls.row (Cv.rim L) (Cv.deg L) = rw0 at *
    generalize Cv.deg L = n at *
    have HS := Lib.hid hS; have HA := Lib.hid hA; have HC := Lib.hid hC; have Hn := Lib.hid hn; have Hrl := Lib.hid hrl
    have HE0 := Lib.hid he0; have HE1 := Lib.hid he1
    clear hS hA hC hn hv hP hact hrim hok ha hm0 hms h2 hrl he0 he1 hE hZ hH hT hF hZm hb hB5
    go_enter Try.func144, Try.ntmps144
    go_wp2_with fail
    refine (HS.out _).mono ?_
    rintro e w1 ⟨rfl, hb1⟩
    have Hk1 := Lib.hid (Hk0.out.below hb1 Hk0.out.lt)
    have Hb1 := Lib.hid (Hb0.out.trans (hb1.mono Hb0.out.size)); clear hb1
    have hB1 := (Blk.new w1 88 #[.int .i64 1, .int .i64 0, .int .i64 1]).alloc (.cells #[.int .i64 0, .int .i64 0, .int .i64 0] 88)
    have hB2 : Blk ((w1.alloc (.cells #[.int .i64 1, .int .i64 0, .int .i64 1] 88)).alloc (.cells #[.int .i64 0, .int .i64 0, .int .i64 0] 88)) (w1.heap.size + 1) 88 #[.int .i64 0, .int .i64 0, .int .i64 0] := by
      have := Blk.new (w1.alloc (.cells #[.int .i64 1, .int .i64 0, .int .i64 1] 88)) 88 #[.int .i64 0, .int .i64 0, .int .i64 0]
      simpa using this
    have hB0 := (Hk1.out.alloc (.cells #[.int .i64 1, .int .i64 0, .int .i64 1] 88)).alloc (.cells #[.int .i64 0, .int .i64 0, .int .i64 0] 88)
    have hbw := (Hb1.out.alloc Hb1.out.size (.cells #[.int .i64 1, .int .i64 0, .int .i64 1] 88)).alloc (by have := Hb1.out.size; simp; omega) (.cells #[.int .i64 0, .int .i64 0, .int .i64 0] 88)
    go_wp2_with fail
    refine (HA.out _ hbw).mono ?_
    rintro e w2 ⟨ai, ci, rfl, _, _, hf2, hb2⟩
    rw [Hrl.out]
    have hbw2 := hbw.trans (hb2.mono hbw.size)
    have HB12 := Lib.hid (hB1.below hb2 hB1.lt); have HB22 := Lib.hid (hB2.below hb2 hB2.lt); have HB02 := Lib.hid (hB0.below hb2 hB0.lt)
    have Hbw2 := Lib.hid hbw2
    have Hcc := Lib.hid (HC.out w2 hbw2 ai ci hf2.row)
    clear hB1 hB2 hB0 hbw hb2 hf2 hbw2
    go_wp2_with fail
    refine Hcc.out.mono ?_
    rintro e w3 ⟨pa, pc, rfl, _, _, _, hb3⟩
    rw [Hn.out]
    have hB13 := HB12.out.below hb3 HB12.out.lt
    have hB23 := HB22.out.below hb3 HB22.out.lt
    have hB03 := HB02.out.below hb3 HB02.out.lt
    have hlt3 : w.heap.size ≠ w1.heap.size + 1 := by have := Hb1.out.size; omega
    have hlw3 : w.heap.size ≤ w1.heap.size + 1 := by have := Hb1.out.size; omega
    have c3 : w3.cell? ⟨w1.heap.size + 1, 2, none⟩ = some (.int .i64 0) := hB23.cell 2
    have f3 := hB23.frozen 2
    have hB1 := hB13.far (p := ⟨w1.heap.size + 1, 2, none⟩) (by simp) (.int .i64 (B : Int))
    have hB2 : Blk (w3.setCell ⟨w1.heap.size + 1, 2, none⟩ (.int .i64 (B : Int))) (w1.heap.size + 1) 88 #[.int .i64 0, .int .i64 0, .int .i64 (B : Int)] := hB23.put 2 (.int .i64 (B : Int))
    have hB0 := hB03.far (p := ⟨w1.heap.size + 1, 2, none⟩) hlt3 (.int .i64 (B : Int))
    have hbw := (Hbw2.out.trans (hb3.mono Hbw2.out.size)).setCell (p := ⟨w1.heap.size + 1, 2, none⟩) hlw3 (.int .i64 (B : Int))
    clear hb3 hB13 hB23 hB03 hlt3 hlw3
    go_wp2_with fail
    generalize w3.setCell ⟨w1.heap.size + 1, 2, none⟩ (.int .i64 (B : Int)) = W4 at *
    have hSS : ∀ W, Below W4.heap.size W4 W → W.cell? ⟨w1.heap.size, 0, none⟩ = some (.int .i64 1) ∧ W.cell? ⟨w1.heap.size, 1, none⟩ = some (.int .i64 0) ∧ W.cell? ⟨w1.heap.size, 2, none⟩ = some (.int .i64 1) ∧ W.cell? ⟨w1.heap.size + 1, 0, none⟩ = some (.int .i64 0) ∧ W.cell? ⟨w1.heap.size + 1, 1, none⟩ = some (.int .i64 0) ∧ W.cell? ⟨w1.heap.size + 1, 2, none⟩ = some (.int .i64 (B : Int)) := fun W hb => by
      have h1 := hB1.below hb hB1.lt
      have h2 := hB2.below hb hB2.lt
      exact ⟨h1.cell 0, h1.cell 1, h1.cell 2, h2.cell 0, h2.cell 1, h2.cell 2⟩
    have hBd := Below.drew (Below.refl W4.heap.size W4)
    have HSS := Lib.hid hSS
    have HSd := Lib.hid (hSS _ hBd)
    have HB0 := Lib.hid hB0; have HB1 := Lib.hid hB1; have HB2 := Lib.hid hB2; have Hbw := Lib.hid hbw
    clear hB0 hB1 hB2 hbw hSS
    go_wp2
    go_region_held3 (fun w' => w'.cell? ⟨w1.heap.size, 0, none⟩ = some (.int .i64 1) ∧ w'.cell? ⟨w1.heap.size, 1, none⟩ = some (.int .i64 0) ∧ w'.cell? ⟨w1.heap.size, 2, none⟩ = some (.int .i64 1) ∧ w'.cell? ⟨w1.heap.size + 1, 0, none⟩ = some (.int .i64 0) ∧ w'.cell? ⟨w1.heap.size + 1, 1, none⟩ = some (.int .i64 0) ∧ w'.cell? ⟨w1.heap.size + 1, 2, none⟩ = some (.int .i64 (B : Int))) (first | (with_reducible assumption) | (with_reducible exact HSd.out)) (first
      | (have hB4' := hB4; clear hB4'; go_at_call 180; refine (HE1.out _).mono ?_; rintro e w5 ⟨rfl, hb5⟩; have hB5 := hB4.trans (hb5.mono hB4.size); have hS5 := HSS.out _ hB5)
      | (go_at_call 180; refine (HE0.out _).mono ?_; rintro e w4 ⟨rfl, hb4⟩; have hB4 := hBd.trans (hb4.mono hBd.size); have hS4 := HSS.out _ hB4))
    all_goals
      have h2 := HB2.out.below hB5 HB2.out.lt
      have h0 := HB0.out.below hB5 HB0.out.lt
      have fz := h2.frozen 0
      have cz : w5.cell? ⟨w1.heap.size + 1, 0, none⟩ = some (.int .i64 0) := h2.cell 0
      have fn0 := h0.frozen 0; have fn1 := h0.frozen 1; have fn2 := h0.frozen 2
      have cn0 : w5.cell? ⟨w.heap.size, 0, none⟩ = some (.int .i64 0) := h0.cell 0
      have cn1 : w5.cell? ⟨w.heap.size, 1, none⟩ = some (.int .i64 0) := h0.cell 1
      have cn2 : w5.cell? ⟨w.heap.size, 2, none⟩ = some (.int .i64 0) := h0.cell 2
      have hlt : w.heap.size ≠ w1.heap.size + 1 := by have := Hb1.out.size; omega
      have h6 := h2.put 0 (.int .i64 H)
      have h60 := h0.far (p := ⟨w1.heap.size + 1, 0, none⟩) hlt (.int .i64 H)
      have H6 := Lib.hid h6; have H60 := Lib.hid h60
      have HB5 := Lib.hid hB5
      clear h2 h0 h6 h60 hS5 hB5
      have hlow : w.heap.size ≤ w1.heap.size + 1 := by have := Hb1.out.size; omega
      have Hlow := Lib.hid hlow
      clear hlow
      go_wp2
      have hlow := Hlow.out
      have hbe := ((((Hbw.out.trans (HB5.out.mono Hbw.out.size)).setCell (p := ⟨w1.heap.size + 1, 0, none⟩) hlow (.int .i64 H)).setCell (p := ⟨w.heap.size, 0, none⟩) (Nat.le_refl _) (.int .i64 H)).setCell (p := ⟨w.heap.size, 1, none⟩) (Nat.le_refl _) (.int .i64 0)).setCell (p := ⟨w.heap.size, 2, none⟩) (Nat.le_refl _) (.int .i64 (B : Int))
      have hke := ((H60.out.put 0 (.int .i64 H)).put 1 (.int .i64 0)).put 2 (.int .i64 (B : Int))
      refine bodyPost_ret (results_cell_row rfl _ _ w.heap.size 88 #[.int .i64 H, .int .i64 0, .int .i64 (B : Int)] (0, 0) _ rfl hke Try.underlying88 rfl (by kernel_rfl)) ?_ ?_
      · rfl
      · exact ⟨rfl, hbe⟩
  · have hbl : Cv.below g = (g, 0, 0) := if_neg h0
    rw [hbl] at hS
    have hg12 : g = 1 ∨ g = 2 := by have := hact.1; omega
    have hv : Cv.coverOf g L ms = (1 + (ms.length : Int) * (g - 1), 0, 0) := if_neg h0
    rw [hv]
    have he0 := fun W => impl_EulerNumber 0 0 0 W (by intro x hx; simp at hx; omega)
    have he1 := fun W => impl_EulerNumber g 0 0 W (by intro x hx; simp at hx; omega)
    rw [show Surf.euler 0 0 0 = 2 by decide] at he0
    rw [show Surf.euler g 0 0 = 2 - 2 * g by rcases hg12 with rfl | rfl <;> decide] at he1
    obtain ⟨Z, hZ⟩ : ∃ Z, (ms.length : Int) * (2 - 2 * g) = Z := ⟨_, rfl⟩
    obtain ⟨H, hH⟩ : ∃ H, 1 + (ms.length : Int) * (g - 1) = H := ⟨_, rfl⟩
    have hZH : 2 - Z = 2 * H := by rw [← hZ, ← hH]; rcases hg12 with rfl | rfl <;> omega
    have hH0 : 0 ≤ H ∧ H ≤ 6 := by rw [← hH]; rcases hg12 with rfl | rfl <;> omega
    obtain ⟨E, hE⟩ : ∃ E, 2 - 2 * g = E := ⟨_, rfl⟩
    rw [hE] at hZ he1
    have hm : IntKind.i64.wrap ((ms.length : Int) * E) = Z := by rw [hZ]; exact wrap_small (by omega) (by omega)
    have hs : IntKind.i64.wrap (2 - Z) = 2 * H := by rw [hZH]; exact wrap_small (by omega) (by omega)
    have hd : (2 * H).tdiv 2 = H := by rw [Int.mul_tdiv_cancel_left _ (by decide)]
    have hwH : IntKind.i64.wrap H = H := wrap_small (by omega) (by omega)
    obtain ⟨T, hT⟩ : ∃ T, 2 * H = T := ⟨_, rfl⟩
    rw [hT] at hs hd
    rw [hH]
    have q0 : (0 : Int) ≤ H := hH0.1
    have q1 : H ≤ 6 := hH0.2
    have t0 : (0 : Int) ≤ T := by omega
    have t1 : T ≤ 12 := by omega
    have HS := Lib.hid hS; have HE0 := Lib.hid he0; have HE1 := Lib.hid he1
    clear hS he0 he1 hv hE hZ hH hZH hH0 hT hg12 hP hact ha hm0 hms hbl
    go_enter Try.func144, Try.ntmps144
    go_wp2_with fail
    refine (HS.out _).mono ?_
    rintro e w1 ⟨rfl, hb1⟩
    have Hk1 := Lib.hid (Hk0.out.below hb1 Hk0.out.lt)
    have Hb1 := Lib.hid (Hb0.out.trans (hb1.mono Hb0.out.size)); clear hb1
    have hB1 := (Blk.new w1 88 #[.int .i64 g, .int .i64 0, .int .i64 0]).alloc (.cells #[.int .i64 0, .int .i64 0, .int .i64 0] 88)
    have hB2 : Blk ((w1.alloc (.cells #[.int .i64 g, .int .i64 0, .int .i64 0] 88)).alloc (.cells #[.int .i64 0, .int .i64 0, .int .i64 0] 88)) (w1.heap.size + 1) 88 #[.int .i64 0, .int .i64 0, .int .i64 0] := by
      have := Blk.new (w1.alloc (.cells #[.int .i64 g, .int .i64 0, .int .i64 0] 88)) 88 #[.int .i64 0, .int .i64 0, .int .i64 0]
      simpa using this
    have hB0 := (Hk1.out.alloc (.cells #[.int .i64 g, .int .i64 0, .int .i64 0] 88)).alloc (.cells #[.int .i64 0, .int .i64 0, .int .i64 0] 88)
    have hbw := (Hb1.out.alloc Hb1.out.size (.cells #[.int .i64 g, .int .i64 0, .int .i64 0] 88)).alloc (by have := Hb1.out.size; simp; omega) (.cells #[.int .i64 0, .int .i64 0, .int .i64 0] 88)
    go_wp2_with fail
    generalize (w1.alloc (.cells #[.int .i64 g, .int .i64 0, .int .i64 0] 88)).alloc (.cells #[.int .i64 0, .int .i64 0, .int .i64 0] 88) = W3 at *
    have hSS : ∀ W, Below W3.heap.size W3 W → W.cell? ⟨w1.heap.size, 0, none⟩ = some (.int .i64 g) ∧ W.cell? ⟨w1.heap.size, 1, none⟩ = some (.int .i64 0) ∧ W.cell? ⟨w1.heap.size, 2, none⟩ = some (.int .i64 0) ∧ W.cell? ⟨w1.heap.size + 1, 0, none⟩ = some (.int .i64 0) ∧ W.cell? ⟨w1.heap.size + 1, 1, none⟩ = some (.int .i64 0) ∧ W.cell? ⟨w1.heap.size + 1, 2, none⟩ = some (.int .i64 0) := fun W hb => by
      have h1 := hB1.below hb hB1.lt
      have h2 := hB2.below hb hB2.lt
      exact ⟨h1.cell 0, h1.cell 1, h1.cell 2, h2.cell 0, h2.cell 1, h2.cell 2⟩
    have hBd := Below.drew (Below.refl W3.heap.size W3)
    have HSS := Lib.hid hSS
    have HSd := Lib.hid (hSS _ hBd)
    have HB0 := Lib.hid hB0; have HB1 := Lib.hid hB1; have HB2 := Lib.hid hB2; have Hbw := Lib.hid hbw
    clear hB0 hB1 hB2 hbw hSS
    go_wp2
    go_region_held3 (fun w' => w'.cell? ⟨w1.heap.size, 0, none⟩ = some (.int .i64 g) ∧ w'.cell? ⟨w1.heap.size, 1, none⟩ = some (.int .i64 0) ∧ w'.cell? ⟨w1.heap.size, 2, none⟩ = some (.int .i64 0) ∧ w'.cell? ⟨w1.heap.size + 1, 0, none⟩ = some (.int .i64 0) ∧ w'.cell? ⟨w1.heap.size + 1, 1, none⟩ = some (.int .i64 0) ∧ w'.cell? ⟨w1.heap.size + 1, 2, none⟩ = some (.int .i64 0)) (first | (with_reducible assumption) | (with_reducible exact HSd.out)) (first
      | (have hB4' := hB4; clear hB4'; go_at_call 180; refine (HE1.out _).mono ?_; rintro e w5 ⟨rfl, hb5⟩; have hB5 := hB4.trans (hb5.mono hB4.size); have hS5 := HSS.out _ hB5)
      | (go_at_call 180; refine (HE0.out _).mono ?_; rintro e w4 ⟨rfl, hb4⟩; have hB4 := hBd.trans (hb4.mono hBd.size); have hS4 := HSS.out _ hB4))
    all_goals
      have h2 := HB2.out.below hB5 HB2.out.lt
      have h0 := HB0.out.below hB5 HB0.out.lt
      have fz := h2.frozen 0
      have cz : w5.cell? ⟨w1.heap.size + 1, 0, none⟩ = some (.int .i64 0) := h2.cell 0
      have fn0 := h0.frozen 0; have fn1 := h0.frozen 1; have fn2 := h0.frozen 2
      have cn0 : w5.cell? ⟨w.heap.size, 0, none⟩ = some (.int .i64 0) := h0.cell 0
      have cn1 : w5.cell? ⟨w.heap.size, 1, none⟩ = some (.int .i64 0) := h0.cell 1
      have cn2 : w5.cell? ⟨w.heap.size, 2, none⟩ = some (.int .i64 0) := h0.cell 2
      have hlt : w.heap.size ≠ w1.heap.size + 1 := by have := Hb1.out.size; omega
      have h6 := h2.put 0 (.int .i64 H)
      have h60 := h0.far (p := ⟨w1.heap.size + 1, 0, none⟩) hlt (.int .i64 H)
      have H6 := Lib.hid h6; have H60 := Lib.hid h60
      have HB5 := Lib.hid hB5
      clear h2 h0 h6 h60 hS5 hB5
      have hlow : w.heap.size ≤ w1.heap.size + 1 := by have := Hb1.out.size; omega
      have Hlow := Lib.hid hlow
      clear hlow
      go_wp2
      have hlow := Hlow.out
      have hbe := ((((Hbw.out.trans (HB5.out.mono Hbw.out.size)).setCell (p := ⟨w1.heap.size + 1, 0, none⟩) hlow (.int .i64 H)).setCell (p := ⟨w.heap.size, 0, none⟩) (Nat.le_refl _) (.int .i64 H)).setCell (p := ⟨w.heap.size, 1, none⟩) (Nat.le_refl _) (.int .i64 0)).setCell (p := ⟨w.heap.size, 2, none⟩) (Nat.le_refl _) (.int .i64 0)
      have hke := ((H60.out.put 0 (.int .i64 H)).put 1 (.int .i64 0)).put 2 (.int .i64 0)
      refine bodyPost_ret (results_cell_row rfl _ _ w.heap.size 88 #[.int .i64 H, .int .i64 0, .int .i64 0] (0, 0) _ rfl hke Try.underlying88 rfl (by kernel_rfl)) ?_ ?_
      · rfl
      · exact ⟨rfl, hbe⟩
end Go.Proofs.Ytodgongemoabiaa
namespace Go.Proofs.Ytodgongemoabiaa
open Go.RowKit

/-- The cells of a row of surfaces. -/
def sfCells (l : List (Int × Int × Int)) : List Value := l.flatMap fun s => [.int .i64 s.1, .int .i64 s.2.1, .int .i64 s.2.2]
theorem sfCells_snoc (l : List (Int × Int × Int)) (s : Int × Int × Int) : sfCells (l ++ [s]) = sfCells l ++ [.int .i64 s.1, .int .i64 s.2.1, .int .i64 s.2.2] := by simp [sfCells]
/-- A new row of surfaces, and whether. -/
def GivesSf (w : World) (l : List (Int × Int × Int)) (b : Bool) (e : Ending) (w' : World) : Prop :=
  ∃ v, e = .returned (.tuple #[v, .bool b]) ∧ w'.ownsRow w.heap.size 88 3 v l.length (sfCells l) ∧ Below w.heap.size w w'
namespace Cv
theorem part_of {L : List (List Int)} {ms : List Nat} (h : ms ∈ partsN L) : (∀ m ∈ ms, m < deg L) ∧ ms.length ≤ deg L := by
  unfold partsN classes at h
  obtain ⟨s, _, rfl⟩ := List.mem_map.1 h
  unfold member
  exact ⟨fun m hm => List.mem_range.1 (List.mem_filter.1 hm).1, Nat.le_trans (List.length_filter_le _ _) (by rw [List.length_range]; exact Nat.le_refl _)⟩
theorem parts_few {L : List (List Int)} : (partsN L).length ≤ deg L := by
  unfold partsN classes firsts
  rw [List.length_map]
  exact Nat.le_trans (List.length_filter_le _ _) (by rw [List.length_range]; exact Nat.le_refl _)
end Cv
theorem info_surf_parts : ∃ i, Try.prog.info? 88 = some i ∧ i.zero = some (.agg #[.int .i64 0, .int .i64 0, .int .i64 0]) ∧ i.size = 3 ∧ i.bytes = 24 := by
  have h : (Try.prog.info? 88).isSome = true := by kernel_rfl
  obtain ⟨i, hi⟩ := Option.isSome_iff_exists.1 h
  have e1 : (Try.prog.info? 88).map (fun x => x.zero) = some (some (.agg #[.int .i64 0, .int .i64 0, .int .i64 0])) := by kernel_rfl
  have e2 : (Try.prog.info? 88).map (fun x => x.size) = some 3 := by kernel_rfl
  have e3 : (Try.prog.info? 88).map (fun x => x.bytes) = some 24 := by kernel_rfl
  rw [hi] at e1 e2 e3
  exact ⟨i, hi, by simpa using e1, by simpa using e2, by simpa using e3⟩

theorem own_len3 {w : World} {base n : Nat} {e : TypeId} {v : Value} {xs : List Value} (h : w.ownsRow base e 3 v n xs) : ∃ a cap, v = .slice a n cap := by
  obtain ⟨_, ⟨h1, rfl⟩ | ⟨g, cap, cur, h1, _⟩⟩ := h
  · exact ⟨_, _, h1⟩
  · exact ⟨_, _, h1⟩
theorem own_mono3 {w : World} {base base' n : Nat} {e : TypeId} {v : Value} {xs : List Value} (h : w.ownsRow base e 3 v n xs) (hb : base' ≤ base) : w.ownsRow base' e 3 v n xs := by
  obtain ⟨h0, h1 | ⟨g, cap, cur, h1, h2, h3⟩⟩ := h
  · exact ⟨h0, Or.inl h1⟩
  · exact ⟨h0, Or.inr ⟨g, cap, cur, h1, Nat.le_trans hb h2, h3⟩⟩
/-- append of one surface to a row of the call's own. -/
theorem append_surf {P : Program} {ops : Array Oper} {rest : List Oper} {o : Oper} {a : Act} {Q : Exit → Act → World → Prop} {W : World} {u1 u2 u3 : Value} {te : TypeId} (hgd : o.guard = none) (s x : Operand) (t : TypeId)
    (ho : o.op = .call { callee := .builtin .append, args := #[s, x], argTypes := #[t, t] })
    (base : Nat) (e : TypeId) (i : TypeInfo) (z : Value) (bytes : Nat) (ht : P.underlying t = some (.slice e)) (hi : P.info? e = some i) (hz : i.zero = some z)
    (hsize : i.size = 3) (hby : i.bytes = bytes) (hzs : z.cells.size = 3)
    (v : Value) (n : Nat) (xs : List Value) (hs : a.eval s = v) (hown : W.ownsRow base e 3 v n xs)
    (h1 : u1.oneCell' = true) (h2 : u2.oneCell' = true) (h3 : u3.oneCell' = true) (c : Nat) (hx : a.eval x = .slice (some ⟨W.heap.size, 0, none⟩) 1 c)
    (h63 : n + 1 ≤ maxLen) (hbytes : (n + 1) * bytes ≤ 140737488355328) (hbase : base ≤ W.heap.size)
    (h : ∀ v' w', w'.ownsRow base e 3 v' (n + 1) (xs ++ [u1, u2, u3]) → (W.alloc (.cells #[u1, u2, u3] te)).grownBy w' v.ownBlock → (v'.ownBlock = v.ownBlock ∨ v'.ownBlock = some (W.alloc (.cells #[u1, u2, u3] te)).heap.size) → wpList P ops Q rest (a.put o.dst v') w') :
    wpList P ops Q (o :: rest) a (W.alloc (.cells #[u1, u2, u3] te)) :=
  wpList_append_new hgd s x t ho base e i z 3 bytes ht hi hz hsize hby hzs (by decide) v n xs hs (hown.alloc _) ⟨W.heap.size, 0, none⟩ 1 c [u1, u2, u3] hx rfl
    (fun j y hj => by
      have hb : Blk (W.alloc (.cells #[u1, u2, u3] te)) W.heap.size te #[u1, u2, u3] := Blk.new W te _
      have hadd : (⟨W.heap.size, 0, none⟩ : Addr).add j = ⟨W.heap.size, j, none⟩ := by unfold Addr.add; split <;> simp_all
      rw [hadd, hb.cell j]
      simpa using hj)
    (fun y hy => by
      simp only [List.mem_cons, List.not_mem_nil, or_false] at hy
      rcases hy with rfl | rfl | rfl
      · exact h1
      · exact h2
      · exact h3) h63 hbytes (Nat.le_trans hbase (by simp)) h

set_option maxRecDepth 10000 in
set_option maxHeartbeats 2000000 in
theorem impl_CoverOf (g : Int) (a : Option Addr) (c : Nat) (L : List (List Int)) (w : World) (ha : GridAt w a L) (hL : ∀ p ∈ L, p.length ≤ 1048576) (hn : L.length ≤ 1048576) :
    Calls Try.prog 62 #[.int .i64 g, .slice a L.length c] w fun e w' => GivesSf w (Cv.covers g L) (decide (Cv.Act g L)) e w' := by
  have hA := impl_IsAction g a c L w ha hL hn
  by_cases hact : Cv.Act g L
  · rw [decide_eq_true hact] at hA ⊢
    have hP := hact.2.1
    have hcv : Cv.covers g L = (Cv.partsN L).map (Cv.coverOf g L) := if_pos hact
    rw [hcv]
    have hS := fun W (hb : Below w.heap.size w W) => impl_SheetParts a c L W (ha.below hb) hL hn
    have hpt : Cv.parts L = Mp.natRows (Cv.partsN L) := if_pos hP
    rw [hpt] at hS
    have hdeg := hP.2.2.2.2
    have hfew := Nat.le_trans (Cv.parts_few (L := L)) hdeg
    have hC := fun W (hb : Below w.heap.size w W) ms (hm : ms ∈ Cv.partsN L) (am : Option Addr) (cm : Nat) (hr : RowAt W am (intCells (intsOf ms))) => impl_coverOfPart g a am c cm L ms W (ha.below hb) hact hr (Cv.part_of hm).1 (Nat.le_trans (Cv.part_of hm).2 hdeg)
    have hsz : (Mp.natRows (Cv.partsN L)).length = (Cv.partsN L).length := by simp [Mp.natRows]
    generalize Cv.partsN L = Ps at *
    have HA := Lib.hid hA; have HS := Lib.hid hS; have HC := Lib.hid hC; have Hsz := Lib.hid hsz
    obtain ⟨i0, hi0, hz0, hz1, hz2⟩ := info_surf_parts
    have Hi0 := Lib.hid hi0; have Hz0 := Lib.hid hz0; have Hz1 := Lib.hid hz1; have Hz2 := Lib.hid hz2
    clear hA hS hC hsz hcv hpt hP hact ha hL hn hdeg hi0 hz0 hz1 hz2
    go_enter Try.func62, Try.ntmps62
    go_wp2_with fail
    refine HA.out.mono ?_
    rintro e w1 ⟨rfl, hb1⟩
    have Hb1 := Lib.hid hb1; clear hb1
    go_wp2_with fail
    refine (HS.out w1 Hb1.out).mono ?_
    rintro e w2 ⟨pa, pc, rfl, hpc, hpm, hg2, hb2⟩
    have Hb2 := Lib.hid (Hb1.out.trans (hb2.mono Hb1.out.size))
    have Hg2 := Lib.hid hg2.grid
    rw [Hsz.out]
    clear hb2 hg2
    go_wp2
    go_loopw [6, 8, 16] (fun cv _ iv wr => ∃ i : Nat, i ≤ Ps.length ∧ iv = .int .i64 i ∧ Hid (wr.ownsRow w2.heap.size 88 3 cv i (sfCells ((Ps.take i).map (Cv.coverOf g L)))) ∧ Hid (Below w2.heap.size w2 wr)) (fun _ _ iv _ => Ps.length - (intOf iv).toNat)
    case atStart => exact ⟨0, Nat.zero_le _, rfl, Lib.hid ⟨rfl, Or.inl ⟨rfl, rfl⟩⟩, Lib.hid (Below.refl _ _)⟩
    case round =>
      obtain ⟨i, hi, rfl, hown, hbr⟩ := hrel
      by_cases hlt : i < Ps.length
      · obtain ⟨ms, hms⟩ := get_some hlt
        have hrow : (Mp.natRows Ps)[i]? = some (intsOf ms) := by
          have : (Mp.natRows Ps)[i]? = (Ps[i]?).map intsOf := by simp [Mp.natRows]; rfl
          rw [this, hms]; rfl
        obtain ⟨b, o, ra, rc, rfl, hbo, hcell, hra⟩ := Hg2.out.get hrow
        rw [intsOf_len] at hcell
        have hcell2 : wr.cell? ⟨b, o + i, none⟩ = some (.slice ra ms.length rc) := by rw [hbr.out.cell hbo]; exact hcell
        have hcov := HC.out wr (Hb2.out.trans (hbr.out.mono Hb2.out.size)) ms (get_mem hms) ra rc (hra.below hbr.out)
        have hsn : (Ps.take (i + 1)).map (Cv.coverOf g L) = (Ps.take i).map (Cv.coverOf g L) ++ [Cv.coverOf g L ms] := by
          rw [List.take_add_one, hms]; simp
        have hcl : sfCells ((Ps.take (i + 1)).map (Cv.coverOf g L)) = sfCells ((Ps.take i).map (Cv.coverOf g L)) ++ [.int .i64 (Cv.coverOf g L ms).1, .int .i64 (Cv.coverOf g L ms).2.1, .int .i64 (Cv.coverOf g L ms).2.2] := by rw [hsn, sfCells_snoc]
        generalize (Cv.coverOf g L ms).1 = X at *
        generalize (Cv.coverOf g L ms).2.1 = Y at *
        generalize (Cv.coverOf g L ms).2.2 = Zc at *
        have i0' : (0 : Int) ≤ (i : Int) := by omega
        have i1' : (i : Int) < (Ps.length : Int) := by omega
        have hm1 : i + 1 ≤ maxLen := by unfold maxLen; omega
        have hm2 : (i + 1) * 24 ≤ 140737488355328 := by omega
        have Hcov := Lib.hid hcov; have Hcl := Lib.hid hcl; have Hm1 := Lib.hid hm1; have Hm2 := Lib.hid hm2
        clear hcov hcl hsn hrow hms hcell hra hm1 hm2
        generalize ms.length = ml at *
        obtain ⟨ca, cc, he⟩ := own_len3 hown.out
        subst he
        go_wp2_with fail
        refine Hcov.out.mono ?_
        rintro e w4 ⟨rfl, hb4⟩
        have hown4 : w4.ownsRow w2.heap.size 88 3 (.slice ca i cc) i (sfCells ((Ps.take i).map (Cv.coverOf g L))) := own_keep hown.out hb4 (fun k hk => (hown.out.lt k hk).2)
        have hb5 := hbr.out.trans (hb4.mono hbr.out.size)
        have Hown4 := Lib.hid hown4; have Hb5 := Lib.hid hb5
        clear hb4 hown4 hb5
        go_wp2_with (at_builtin; refine append_surf rfl (.tmp 20) (.tmp 25) 53 rfl w2.heap.size 88 i0 _ 24 Try.underlying53 Hi0.out Hz0.out Hz1.out Hz2.out (by rfl) _ _ _ rfl Hown4.out rfl rfl rfl _ rfl Hm1.out Hm2.out Hb5.out.size ?_; intro v6 w6 hown6 hg6 _)
        have hb6 := (Hb5.out.alloc Hb5.out.size (.cells #[.int .i64 X, .int .i64 Y, .int .i64 Zc] 88)).grown hg6 (by have := Hb5.out.size; simp; omega) (fun k hk => (Hown4.out.lt k hk).1)
        have Hown6 := Lib.hid hown6; have Hb6 := Lib.hid hb6
        clear hown6 hg6 hb6
        go_wp2
        go_roundw
        case rel => exact ⟨i + 1, by omega, by go_num, Lib.hid (by rw [Hcl.out]; exact Hown6.out), Hb6⟩
        case measure => simp [intOf]; omega
      · obtain rfl : i = Ps.length := by omega
        rw [List.take_of_length_le (Nat.le_refl _)] at hown
        go_wp2
        go_ret2
        exact ⟨_, rfl, by rw [List.length_map]; exact own_mono3 hown.out Hb2.out.size, Hb2.out.trans (hbr.out.mono Hb2.out.size)⟩
  · rw [decide_eq_false hact] at hA ⊢
    have hcv : Cv.covers g L = [] := if_neg hact
    rw [hcv]
    have HA := Lib.hid hA
    clear hA hact ha hcv
    go_enter Try.func62, Try.ntmps62
    go_wp2_with fail
    refine HA.out.mono ?_
    rintro e w1 ⟨rfl, hb1⟩
    have Hb1 := Lib.hid hb1; clear hb1
    go_wp2
    go_ret2
    exact ⟨_, rfl, ⟨rfl, Or.inl ⟨rfl, rfl⟩⟩, Hb1.out⟩
end Go.Proofs.Ytodgongemoabiaa
namespace Go.Proofs.Ytodgongemoabiaa
open Go.RowKit

theorem sfCells_at : ∀ (l : List (Int × Int × Int)) (i : Nat) (s : Int × Int × Int), l[i]? = some s → (sfCells l)[i * 3]? = some (.int .i64 s.1) ∧ (sfCells l)[i * 3 + 1]? = some (.int .i64 s.2.1) ∧ (sfCells l)[i * 3 + 2]? = some (.int .i64 s.2.2)
  | [], i, s, h => by simp at h
  | x :: l, 0, s, h => by
    rw [List.getElem?_cons_zero] at h
    cases h; exact ⟨rfl, rfl, rfl⟩
  | x :: l, i + 1, s, h => by
    have := sfCells_at l i s (by simpa using h)
    rw [show (i + 1) * 3 = i * 3 + 3 by omega, show i * 3 + 3 + 1 = i * 3 + 1 + 3 by omega, show i * 3 + 3 + 2 = i * 3 + 2 + 3 by omega]
    exact this
theorem sfCells_len (l : List (Int × Int × Int)) : (sfCells l).length = l.length * 3 := by
  induction l with
  | nil => rfl
  | cons x l ih => show (_ :: _ :: _ :: sfCells l).length = _; simp [ih]; omega
theorem sfCells_some {w : World} {a : Option Addr} {l : List (Int × Int × Int)} (h : RowAt w a (sfCells l)) {i : Nat} {s : Int × Int × Int} (hi : l[i]? = some s) :
    ∃ b o, a = some ⟨b, o, none⟩ ∧ b < w.heap.size ∧ w.cell? ⟨b, o + i * 3, none⟩ = some (.int .i64 s.1) ∧ w.cell? ⟨b, o + i * 3 + 1, none⟩ = some (.int .i64 s.2.1) ∧ w.cell? ⟨b, o + i * 3 + 2, none⟩ = some (.int .i64 s.2.2) := by
  obtain ⟨h1, h2, h3⟩ := sfCells_at l i s hi
  rcases h with h | ⟨b, o, rfl, hb, hc⟩
  · rw [h] at h1; simp at h1
  · exact ⟨b, o, rfl, hb, hc _ _ h1, hc _ _ h2, hc _ _ h3⟩

set_option maxRecDepth 10000 in
set_option maxHeartbeats 1000000 in
theorem eqSurfaceS (a a' : Option Addr) (c c' : Nat) (l : List (Int × Int × Int)) (w : World) (ha : RowAt w a (sfCells l)) (ha' : RowAt w a' (sfCells l)) (hl : l.length ≤ 1000000000) :
    Calls Try.prog 63 #[.slice a l.length c, .slice a' l.length c'] w fun e w' => e = .returned (.bool true) ∧ Below w.heap.size w w' := by
  have Ha := Lib.hid ha; have Ha' := Lib.hid ha'
  clear ha ha'
  go_enter Try.func63, Try.ntmps63
  go_wp2
  go_loopw [4, 5] (fun rv iv wr => rv = .bool false ∧ ∃ i : Nat, i ≤ l.length ∧ iv = .int .i64 i ∧ Hid (Below w.heap.size w wr)) (fun _ iv _ => l.length - (intOf iv).toNat)
  case atStart => exact ⟨rfl, 0, Nat.zero_le _, rfl, Lib.hid (Below.refl _ _)⟩
  case round =>
    obtain ⟨rfl, i, hi, rfl, hb⟩ := hrel
    by_cases hlt : i < l.length
    · obtain ⟨s, hs⟩ := get_some hlt
      obtain ⟨x, y, z⟩ := s
      obtain ⟨b, o, rfl, hbw, p0, p1, p2⟩ := sfCells_some Ha.out hs
      obtain ⟨b', o', rfl, hbw', q0, q1, q2⟩ := sfCells_some Ha'.out hs
      have i0 : (0 : Int) ≤ (i : Int) := by omega
      have i1 : (i : Int) < (l.length : Int) := by omega
      have hS : ∀ W, Below w.heap.size w W → W.cell? ⟨b, o + i * 3, none⟩ = some (.int .i64 x) ∧ W.cell? ⟨b, o + i * 3 + 1, none⟩ = some (.int .i64 y) ∧ W.cell? ⟨b, o + i * 3 + 2, none⟩ = some (.int .i64 z) ∧ W.cell? ⟨b', o' + i * 3, none⟩ = some (.int .i64 x) ∧ W.cell? ⟨b', o' + i * 3 + 1, none⟩ = some (.int .i64 y) ∧ W.cell? ⟨b', o' + i * 3 + 2, none⟩ = some (.int .i64 z) := fun W h => ⟨by rw [h.cell hbw]; exact p0, by rw [h.cell hbw]; exact p1, by rw [h.cell hbw]; exact p2, by rw [h.cell hbw']; exact q0, by rw [h.cell hbw']; exact q1, by rw [h.cell hbw']; exact q2⟩
      have hBd := Below.drew hb.out
      have HSd := Lib.hid (hS _ hBd)
      have HS := Lib.hid hS
      clear hs hS p0 p1 p2 q0 q1 q2
      go_wp2
      go_region_held3 (fun w' => w'.cell? ⟨b, o + i * 3, none⟩ = some (.int .i64 x) ∧ w'.cell? ⟨b, o + i * 3 + 1, none⟩ = some (.int .i64 y) ∧ w'.cell? ⟨b, o + i * 3 + 2, none⟩ = some (.int .i64 z) ∧ w'.cell? ⟨b', o' + i * 3, none⟩ = some (.int .i64 x) ∧ w'.cell? ⟨b', o' + i * 3 + 1, none⟩ = some (.int .i64 y) ∧ w'.cell? ⟨b', o' + i * 3 + 2, none⟩ = some (.int .i64 z)) (first | (with_reducible assumption) | (with_reducible exact HSd.out)) (first
        | (go_at_call 145; refine (eqSurface x y z _).mono ?_; rintro e w4 ⟨rfl, hb4⟩; have hB4 := hBd.trans (hb4.mono hBd.size); have hS4 := HS.out _ hB4))
      all_goals
        have HB4 := Lib.hid hB4
        clear hS4
        go_wp2
        go_roundw
        case rel => exact ⟨rfl, i + 1, by omega, by go_num, HB4⟩
        case measure => simp [intOf]; omega
    · obtain rfl : i = l.length := by omega
      go_wp2
      go_ret
      exact ⟨rfl, hb.out⟩
/-- The marks of n surfaces from k on. -/
def sfMarks (k : Nat) : Nat → List (Int × Int × Int)
  | 0 => []
  | n + 1 => sfMarks k n ++ [(((k + 3 * n : Nat) : Int), ((k + 3 * n + 1 : Nat) : Int), ((k + 3 * n + 2 : Nat) : Int))]
theorem sfMarks_len (k n : Nat) : (sfMarks k n).length = n := by
  induction n with
  | zero => rfl
  | succ n ih => unfold sfMarks; rw [List.length_append, ih]; rfl
theorem sfMarks_at (k : Nat) : ∀ (n i : Nat), i < n → (sfMarks k n)[i]? = some (((k + 3 * i : Nat) : Int), ((k + 3 * i + 1 : Nat) : Int), ((k + 3 * i + 2 : Nat) : Int))
  | 0, i, h => absurd h (Nat.not_lt_zero i)
  | n + 1, i, h => by
    unfold sfMarks
    rw [List.getElem?_append, sfMarks_len]
    by_cases h2 : i < n
    · rw [if_pos h2]; exact sfMarks_at k n i h2
    · obtain rfl : i = n := by omega
      rw [if_neg h2, Nat.sub_self]; rfl
set_option maxRecDepth 10000 in
set_option maxHeartbeats 1000000 in
theorem heldSurfaceS (a : Option Addr) (n c k : Nat) (w : World) (ha : RowAt w a (sfCells (sfMarks k n))) (h1 : k ≤ 1000000000) (hn : n ≤ 1000000000) :
    Calls Try.prog 65 #[.slice a n c, .int .i64 k] w fun e w' => e = .returned (.int .i64 (k + 3 * n : Nat)) ∧ Below w.heap.size w w' := by
  have Ha := Lib.hid ha
  clear ha
  go_enter Try.func65, Try.ntmps65
  go_wp2
  go_loopw [1, 4, 5] (fun kv rv iv wr => rv = .int .i64 0 ∧ ∃ i : Nat, i ≤ n ∧ iv = .int .i64 i ∧ kv = .int .i64 (k + 3 * i : Nat) ∧ Hid (Below w.heap.size w wr)) (fun _ _ iv _ => n - (intOf iv).toNat)
  case atStart => exact ⟨rfl, 0, by omega, rfl, rfl, Lib.hid (Below.refl _ _)⟩
  case round =>
    obtain ⟨rfl, i, hi, rfl, rfl, hb⟩ := hrel
    by_cases hlt : i < n
    · obtain ⟨b, o, rfl, hbw, p0, p1, p2⟩ := sfCells_some Ha.out (sfMarks_at k n i hlt)
      have p0 := (hb.out.cell hbw).trans p0
      have p1 := (hb.out.cell hbw).trans p1
      have p2 := (hb.out.cell hbw).trans p2
      have i0 : (0 : Int) ≤ (i : Int) := by omega
      have i1 : (i : Int) < (n : Int) := by omega
      obtain ⟨q, hq⟩ : ∃ q, k + 3 * i = q := ⟨_, rfl⟩
      rw [hq] at p0 p1 p2
      rw [hq]
      have q0 : (0 : Int) ≤ (q : Int) := by omega
      have q1 : (q : Int) ≤ 4000000000 := by omega
      have hq3 : k + 3 * (i + 1) = q + 1 + 1 + 1 := by omega
      have Hq := Lib.hid hq; have Hq3 := Lib.hid hq3
      clear hq hq3
      go_wp2
      go_roundw
      case rel => exact ⟨rfl, i + 1, by omega, by go_num, by rw [Hq3.out]; go_num, hb⟩
      case measure => simp [intOf]; omega
    · obtain rfl : i = n := by omega
      go_wp2
      go_ret
      exact ⟨rfl, hb.out⟩
theorem sfMarks_cells (k n : Nat) : sfCells (sfMarks k (n + 1)) = sfCells (sfMarks k n) ++ [.int .i64 ((k + 3 * n : Nat) : Int), .int .i64 ((k + 3 * n + 1 : Nat) : Int), .int .i64 ((k + 3 * n + 2 : Nat) : Int)] := sfCells_snoc _ _
theorem three_set {cur : Array Value} {cs : List Value} {m : Nat} {x y z : Value} (hl : cs.length = m) (hs : m + 3 ≤ cur.size) (h : ∀ (j : Nat) v, cs[j]? = some v → cur[j]? = some v) :
    ∀ (j : Nat) v, (cs ++ [x, y, z])[j]? = some v → (((cur.setIfInBounds m x).setIfInBounds (m + 1) y).setIfInBounds (m + 2) z)[j]? = some v := by
  intro j v hv
  rw [List.getElem?_append] at hv
  simp only [Array.getElem?_setIfInBounds, Array.size_setIfInBounds]
  by_cases hj : j < cs.length
  · rw [if_pos hj] at hv
    rw [if_neg (by omega), if_neg (by omega), if_neg (by omega)]
    exact h j v hv
  · rw [if_neg hj] at hv
    have hj3 := (List.getElem?_eq_some_iff.1 hv).1
    simp only [List.length_cons, List.length_nil] at hj3
    have hc : j - cs.length = 0 ∨ j - cs.length = 1 ∨ j - cs.length = 2 := by omega
    rcases hc with e | e | e
    · rw [e] at hv
      rw [if_neg (by omega), if_neg (by omega), if_pos (by omega), if_pos (by omega)]; exact hv
    · rw [e] at hv
      rw [if_neg (by omega), if_pos (by omega), if_pos (by omega)]; exact hv
    · rw [e] at hv
      rw [if_pos (by omega), if_pos (by omega)]; exact hv
set_option maxRecDepth 10000 in
set_option maxHeartbeats 1000000 in
theorem markSurfaceS0 (g c k n : Nat) (cur : Array Value) (w : World) (hk : Blk w g 88 cur) (hc : n * 3 ≤ cur.size) (h1 : k ≤ 1000000000) (hn : n ≤ 1000000000) :
    Calls Try.prog 64 #[.slice (some ⟨g, 0, none⟩) n c, .int .i64 k] w fun e w' => e = .returned (.int .i64 (k + 3 * n : Nat)) ∧ (∃ cs, Blk w' g 88 cs ∧ cs.size = cur.size ∧ ∀ (j : Nat) v, (sfCells (sfMarks k n))[j]? = some v → cs[j]? = some v) ∧ w.grownBy w' (some g) := by
  have Hk := Lib.hid hk
  have hlt := hk.lt
  have Hb := Lib.hid (World.grownBy.refl w (some g))
  clear hk
  go_enter Try.func64, Try.ntmps64
  go_wp2
  go_loopw [1, 5] (fun kv iv wr => ∃ i : Nat, i ≤ n ∧ iv = .int .i64 i ∧ kv = .int .i64 (k + 3 * i : Nat) ∧ Hid (w.grownBy wr (some g)) ∧ Hid (∃ cs, Blk wr g 88 cs ∧ cs.size = cur.size ∧ ∀ (j : Nat) v, (sfCells (sfMarks k i))[j]? = some v → cs[j]? = some v)) (fun _ iv _ => n - (intOf iv).toNat)
  case atStart => exact ⟨0, Nat.zero_le _, rfl, rfl, Hb, Lib.hid ⟨cur, Hk.out, rfl, fun j v h => by simp [sfMarks, sfCells] at h⟩⟩
  case round =>
    obtain ⟨i, hi, rfl, rfl, hb, hrow⟩ := hrel
    by_cases hlt2 : i < n
    · obtain ⟨cs, hcs, hsz, hall⟩ := hrow.out
      have g0 := hcs.frozen (i * 3)
      have g1 := hcs.frozen (i * 3 + 1)
      have g2 := hcs.frozen (i * 3 + 2)
      have c0 : wr.cell? ⟨g, i * 3, none⟩ = some (cs[i * 3]'(by omega)) := by rw [hcs.cell]; exact Array.getElem?_eq_getElem (by omega)
      have c1 : wr.cell? ⟨g, i * 3 + 1, none⟩ = some (cs[i * 3 + 1]'(by omega)) := by rw [hcs.cell]; exact Array.getElem?_eq_getElem (by omega)
      have c2 : wr.cell? ⟨g, i * 3 + 2, none⟩ = some (cs[i * 3 + 2]'(by omega)) := by rw [hcs.cell]; exact Array.getElem?_eq_getElem (by omega)
      generalize cs[i * 3]'(by omega) = u0 at *
      generalize cs[i * 3 + 1]'(by omega) = u1 at *
      generalize cs[i * 3 + 2]'(by omega) = u2 at *
      have i0 : (0 : Int) ≤ (i : Int) := by omega
      have i1 : (i : Int) < (n : Int) := by omega
      obtain ⟨q, hq⟩ : ∃ q, k + 3 * i = q := ⟨_, rfl⟩
      have hm := sfMarks_cells k i
      rw [hq] at hm
      have hnew := three_set (x := .int .i64 ((q : Nat) : Int)) (y := .int .i64 ((q + 1 : Nat) : Int)) (z := .int .i64 ((q + 2 : Nat) : Int)) (show (sfCells (sfMarks k i)).length = i * 3 by rw [sfCells_len, sfMarks_len]) (show i * 3 + 3 ≤ cs.size by omega) hall
      rw [← hm] at hnew
      have hblk := ((hcs.put (i * 3) (.int .i64 ((q : Nat) : Int))).put (i * 3 + 1) (.int .i64 ((q + 1 : Nat) : Int))).put (i * 3 + 2) (.int .i64 ((q + 2 : Nat) : Int))
      have hbe := only_setCell (p := ⟨g, i * 3 + 2, none⟩) (only_setCell (p := ⟨g, i * 3 + 1, none⟩) (only_setCell (p := ⟨g, i * 3, none⟩) hb.out (Or.inl rfl) (.int .i64 ((q : Nat) : Int))) (Or.inl rfl) (.int .i64 ((q + 1 : Nat) : Int))) (Or.inl rfl) (.int .i64 ((q + 2 : Nat) : Int))
      have Hfin := Lib.hid (show ∃ cs', Blk _ g 88 cs' ∧ cs'.size = cur.size ∧ ∀ (j : Nat) v, (sfCells (sfMarks k (i + 1)))[j]? = some v → cs'[j]? = some v from ⟨_, hblk, by simp [hsz], hnew⟩)
      have Hbe := Lib.hid hbe
      rw [hq]
      have q0 : (0 : Int) ≤ (q : Int) := by omega
      have q1 : (q : Int) ≤ 4000000000 := by omega
      have hq3 : k + 3 * (i + 1) = q + 1 + 1 + 1 := by omega
      have Hq3 := Lib.hid hq3
      clear hq hq3 hm hnew hblk hbe hcs hall hsz
      go_wp2
      go_roundw
      case rel => exact ⟨i + 1, by omega, by go_num, by rw [Hq3.out]; go_num, Hbe, Hfin⟩
      case measure => simp [intOf]; omega
    · obtain rfl : i = n := by omega
      go_wp2
      go_ret
      exact ⟨rfl, hrow.out, hb.out⟩
set_option maxRecDepth 10000 in
theorem markSurfaceS1 (a : Option Addr) (c k : Nat) (w : World) (h1 : k ≤ 1000000000) :
    Calls Try.prog 64 #[.slice a 0 c, .int .i64 k] w fun e w' => e = .returned (.int .i64 k) ∧ w' = w := by
  go_enter Try.func64, Try.ntmps64
  go_wp2
  go_loopw [1, 5] (fun kv iv wr => iv = .int .i64 0 ∧ kv = .int .i64 k ∧ wr = w) (fun _ _ _ => 0)
  case atStart => exact ⟨rfl, rfl, rfl⟩
  case round =>
    obtain ⟨rfl, rfl, rfl⟩ := hrel
    go_wp2
    go_ret
    exact ⟨rfl, rfl⟩
/-- A row of surfaces in a block of its own, from lo on below hi. -/
def SfIn (w : World) (lo hi : Nat) (a : Option Addr) (R : List (Int × Int × Int)) : Prop :=
  R = [] ∨ ∃ g all, a = some ⟨g, 0, none⟩ ∧ lo ≤ g ∧ g < hi ∧ Blk w g 88 all ∧ R.length * 3 ≤ all.size ∧ ∀ (j : Nat) v, (sfCells R)[j]? = some v → all[j]? = some v
section
variable {w w' : World} {lo hi : Nat} {a : Option Addr} {R : List (Int × Int × Int)}
theorem SfIn.row (h : SfIn w lo hi a R) : RowAt w a (sfCells R) := by
  rcases h with rfl | ⟨g, all, rfl, _, _, hk, _, hc⟩
  · exact Or.inl rfl
  · exact Or.inr ⟨g, 0, rfl, hk.lt, fun j v h => by rw [Nat.zero_add, hk.cell j]; exact hc j v h⟩
theorem SfIn.below (h : SfIn w lo hi a R) (hb : Below w.heap.size w w') : SfIn w' lo hi a R := by
  rcases h with h | ⟨g, all, e, h1, h2, hk, h3⟩
  · exact Or.inl h
  · exact Or.inr ⟨g, all, e, h1, h2, hk.below hb hk.lt, h3⟩
theorem SfIn.only {lo' hi' : Nat} (h : SfIn w lo hi a R) (ho : Only lo' hi' w w') (hd : hi ≤ lo' ∨ hi' ≤ lo) : SfIn w' lo hi a R := by
  rcases h with h | ⟨g, all, e, h1, h2, hk, h3⟩
  · exact Or.inl h
  · exact Or.inr ⟨g, all, e, h1, h2, ho.block hk (by omega), h3⟩
end
/-- What GivesSf says, in the form that exact laws ask for. -/
theorem GivesSf.exact {w w' : World} {R : List (Int × Int × Int)} {b : Bool} {e : Ending} (h : GivesSf w R b e w') :
    ∃ a c, e = .returned (.tuple #[.slice a R.length c, .bool b]) ∧ R.length ≤ c ∧ c ≤ maxLen ∧ SfIn w' w.heap.size w'.heap.size a R ∧ Below w.heap.size w w' := by
  obtain ⟨v, rfl, ⟨hl, ⟨rfl, h0⟩ | ⟨g, cap, cur, rfl, h1, h2, h3, h4, h5, h6⟩⟩, hb⟩ := h
  · exact ⟨none, 0, by rw [h0], by omega, Nat.zero_le _, Or.inl (List.length_eq_zero_iff.1 h0), hb⟩
  · refine ⟨some ⟨g, 0, none⟩, cap, rfl, h3, h4, Or.inr ⟨g, cur, rfl, h1, (show Blk w' g 88 cur from h2).lt, h2, by rw [h5]; exact Nat.mul_le_mul_right 3 h3, fun j v hj => ?_⟩, hb⟩
    rw [← h6, List.getElem?_take] at hj
    split at hj
    · rw [← Array.getElem?_toList]; exact hj
    · cases hj
theorem markSurfaceS (a : Option Addr) (c k lo hi : Nat) (R : List (Int × Int × Int)) (w : World) (ha : SfIn w lo hi a R) (h1 : k ≤ 1000000000) (hn : R.length ≤ 1000000000) :
    Calls Try.prog 64 #[.slice a R.length c, .int .i64 k] w fun e w' => e = .returned (.int .i64 (k + 3 * R.length : Nat)) ∧ SfIn w' lo hi a (sfMarks k R.length) ∧ Only lo hi w w' := by
  rcases ha with rfl | ⟨g, all, rfl, hlo, hhi, hk, hs, _⟩
  · refine (markSurfaceS1 a c k w h1).mono ?_
    rintro e w' ⟨rfl, rfl⟩
    exact ⟨rfl, Or.inl rfl, Only.refl _ _ _⟩
  · refine (markSurfaceS0 g c k R.length all w hk hs h1 hn).mono ?_
    rintro e w' ⟨rfl, ⟨cs, hc, hsz, hall⟩, hg⟩
    exact ⟨rfl, Or.inr ⟨g, cs, rfl, hlo, hhi, hc, by rw [hsz, sfMarks_len]; exact hs, hall⟩, (Only.of_grown hg).mono hlo hhi⟩
end Go.Proofs.Ytodgongemoabiaa
namespace Go.Proofs.Ytodgongemoabiaa
open Go.RowKit

namespace Cv
theorem cycTo_heads (f : Nat → Nat) (n : Nat) : ∀ k, ∀ c ∈ (Mp.cycTo f n k).2, c ≠ [] ∧ c.headD 0 < k
  | 0, c, hc => by rw [Mp.cycTo_zero] at hc; cases hc
  | k + 1, c, hc => by
    rw [Mp.cycTo_succ] at hc
    unfold Mp.cycStep at hc
    split at hc
    · have := cycTo_heads f n k c hc; exact ⟨this.1, by omega⟩
    · rename_i hne
      rcases List.mem_append.1 hc with hc | hc
      · have := cycTo_heads f n k c hc; exact ⟨this.1, by omega⟩
      · rw [List.mem_singleton.1 hc]
        exact ⟨hne, by rw [cyc_head hne]; omega⟩
/-- How many of the cycles begin in a part. -/
def beg (ms : List Nat) (c : List Nat) : Bool := decide (((c.headD 0 : Nat) : Int) ∈ intsOf ms)
theorem mem_ints {x : Nat} {ms : List Nat} : ((x : Nat) : Int) ∈ intsOf ms ↔ x ∈ ms := by
  unfold intsOf
  rw [List.mem_map]
  exact ⟨fun ⟨y, h1, h2⟩ => by have : y = x := Int.ofNat.inj h2; rwa [← this], fun h => ⟨x, h, rfl⟩⟩
theorem rimIn_beg {L : List (List Int)} (h : Perms L) (h2 : 2 ≤ L.length) {ms : List Nat} (hm : ms ∈ partsN L) : rimIn L ms = (rimCycles L).countP (beg ms) := by
  unfold partsN classes at hm
  obtain ⟨s, hs, rfl⟩ := List.mem_map.1 hm
  rw [rimIn_count h h2, List.countP_eq_length_filter]
  refine congrArg List.length (List.filter_congr fun c hc => ?_)
  have hh := (cycTo_heads _ _ _ c hc).2
  unfold beg
  rw [Bool.eq_iff_iff, decide_eq_true_eq, mem_ints, beq_iff_eq]
  unfold member
  rw [List.mem_filter, List.mem_range, beq_iff_eq]
  exact ⟨fun e => ⟨hh, e⟩, fun e => e.2⟩
theorem beg_step {C : List (List Nat)} {ms c : List Nat} {i : Nat} (h : C[i]? = some c) : (C.take (i + 1)).countP (beg ms) = (C.take i).countP (beg ms) + if beg ms c then 1 else 0 := by
  obtain ⟨h1, rfl⟩ := List.getElem?_eq_some_iff.1 h
  rw [List.take_succ_eq_append_getElem h1, List.countP_append, List.countP_cons, List.countP_nil]
  simp
end Cv

set_option maxRecDepth 10000 in
theorem spec_l3Find2 (a : Option Addr) (c : Nat) (l : List Int) (x : Int) (w : World) (ha : RowAt w a (intCells l)) (hl : l.length ≤ 1048576) :
    Calls Try.prog 143 #[.slice a l.length c, .int .i64 x] w fun e w' => e = .returned (.bool (decide (x ∈ l))) ∧ w' = w := by
  have Ha := Lib.hid ha
  obtain ⟨V, hV⟩ : ∃ V, decide (x ∈ l) = V := ⟨_, rfl⟩
  rw [hV]
  have HV := Lib.hid hV
  clear ha hV
  go_enter Try.func143, Try.ntmps143
  go_wp2
  go_loopw [5] (fun iv wr => ∃ i : Nat, i ≤ l.length ∧ iv = .int .i64 i ∧ Hid (∀ j v, j < i → l[j]? = some v → v ≠ x) ∧ wr = w) (fun iv _ => l.length - (intOf iv).toNat)
  case atStart => exact ⟨0, Nat.zero_le _, rfl, Lib.hid (fun j v h => absurd h (Nat.not_lt_zero j)), rfl⟩
  case round =>
    obtain ⟨i, hi, rfl, hall, rfl⟩ := hrel
    by_cases hlt : i < l.length
    · obtain ⟨v, hv⟩ := get_some hlt
      obtain ⟨b, o, rfl, _, hcell⟩ := intCells_get? Ha.out hv
      have i0 : (0 : Int) ≤ (i : Int) := by omega
      have i1 : (i : Int) < (l.length : Int) := by omega
      have Hv := Lib.hid hv
      clear hv
      by_cases he : v = x
      · have d0 : (v == x) = true := beq_iff_eq.2 he
        have hmem : V = true := by rw [← HV.out]; exact decide_eq_true (he ▸ get_mem Hv.out)
        have Hm := Lib.hid hmem
        clear he hmem
        go_wp2
        go_ret
        exact ⟨by rw [Hm.out]; rfl, rfl⟩
      · have d0 : (v == x) = false := beq_eq_false_iff_ne.2 he
        go_wp2
        go_roundw
        case rel => exact ⟨i + 1, by omega, by go_num, Lib.hid (fun j u h hu => by
          rcases Nat.lt_succ_iff_lt_or_eq.1 h with h | rfl
          · exact hall.out j u h hu
          · rw [Hv.out] at hu; cases hu; exact he), trivial⟩
        case measure => simp [intOf]; omega
    · obtain rfl : i = l.length := by omega
      have hno : V = false := by
       rw [← HV.out]
       exact decide_eq_false fun hm => by
        obtain ⟨j, hj, e⟩ := List.getElem_of_mem hm
        exact hall.out j x hj (by rw [List.getElem?_eq_getElem hj, e]) rfl
      have Hm := Lib.hid hno
      clear hno
      go_wp2
      go_ret
      exact ⟨by rw [Hm.out]; rfl, rfl⟩

theorem sf_round {w wr W w6 : World} {lo hi og k cap : Nat} {xs us : List Value} {v6 : Value} {pa ya : Option Addr} {A B : List (List Int)}
    (hsz : hi ≤ wr.heap.size) (hog : og < lo ∨ hi ≤ og) (hb : Below w.heap.size w wr) (hgp : GridIn wr lo hi pa A) (hgy : GridIn wr lo hi ya B)
    (hown : wr.ownsRow w.heap.size 88 3 (.slice (some ⟨og, 0, none⟩) k cap) k xs)
    (hW : Below wr.heap.size wr W) (hg : W.grownBy w6 (some og)) (hk : v6.ownBlock = some og ∨ v6.ownBlock = some W.heap.size) (hown6 : w6.ownsRow w.heap.size 88 3 v6 (k + 1) us) :
    ∃ g6 c6, v6 = .slice (some ⟨g6, 0, none⟩) (k + 1) c6 ∧ (g6 < lo ∨ hi ≤ g6) ∧ hi ≤ w6.heap.size ∧ w6.ownsRow w.heap.size 88 3 (.slice (some ⟨g6, 0, none⟩) (k + 1) c6) (k + 1) us ∧ Below w.heap.size w w6 ∧ GridIn w6 lo hi pa A ∧ GridIn w6 lo hi ya B := by
  have h6 := hown6
  obtain ⟨_, ⟨_, h⟩ | ⟨g6, c6, cur, rfl, _⟩⟩ := hown6
  · omega
  have hs := hW.size
  have hlt := (hown.lt og rfl)
  refine ⟨g6, c6, rfl, ?_, Nat.le_trans (Nat.le_trans hsz hs) hg.size, h6, ?_, ?_, ?_⟩
  · rcases hk with e | e
    · have : g6 = og := Option.some.inj e
      rw [this]; exact hog
    · have : g6 = W.heap.size := Option.some.inj e
      rw [this]; exact Or.inr (Nat.le_trans hsz hs)
  · exact (hb.trans (hW.mono hb.size)).grown hg (Nat.le_trans hb.size hs) (fun j hj => by cases hj; exact hlt.1)
  · exact (hgp.below hW).only (Only.of_grown hg) (by omega)
  · exact (hgy.below hW).only (Only.of_grown hg) (by omega)
theorem two_size (w : World) (o : Obj) : (w.alloc o).heap.size = w.heap.size + 1 := by simp

set_option maxRecDepth 10000 in
set_option maxHeartbeats 2000000 in
theorem spec_CoverOf (g : Int) (a : Option Addr) (c : Nat) (L : List (List Int)) (w : World) (ha : GridAt w a L) (hL : ∀ p ∈ L, p.length ≤ 1048576) (hn : L.length ≤ 1048576) :
    Calls Try.prog 61 #[.int .i64 g, .slice a L.length c] w fun e w' => GivesSf w (Cv.covers g L) (decide (Cv.Act g L)) e w' := by
  have hA := spec_IsAction g a c L w ha hL hn
  by_cases hact : Cv.Act g L
  · rw [decide_eq_true hact] at hA ⊢
    have hP := hact.2.1
    have h2 : 2 ≤ L.length := by have := hact.2.2.1; omega
    have hcv : Cv.covers g L = (Cv.partsN L).map (Cv.coverOf g L) := if_pos hact
    rw [hcv]
    have hS := fun W (hb : Below w.heap.size w W) => spec_l9Parts a c L W (ha.below hb) hP
    have hR := fun W => spec_Relator 1 W
    have hrel : Dn.rel 1 = [1, 2, -1, -2] := by decide
    rw [hrel] at hR
    have hok : Cv.Ok L [1, 2, -1, -2] := by
      rw [← hrel]
      exact Cv.ok_upto.2 ⟨hP, by rw [hrel]; decide, fun x hx => by rw [hrel] at hx; exact (Cv.rim_lets h2 x hx).2⟩
    have hW := fun W (hb : Below w.heap.size w W) aw cw (hw : RowAt W aw (intCells [1, 2, -1, -2])) => spec_ActWord a aw c cw L [1, 2, -1, -2] W (ha.below hb) hL hn hw (by decide)
    rw [Cv.actW_of hok] at hW
    have hrl : (Cv.row L [1, 2, -1, -2] (Cv.deg L)).length = Cv.deg L := Cv.row_len _ _ _
    have hY := fun W ra rc (hr : RowAt W ra (intCells (Cv.row L [1, 2, -1, -2] (Cv.deg L)))) => spec_l6CyclesP ra rc (Cv.row L [1, 2, -1, -2] (Cv.deg L)) W hr (Cv.row_isP hok) (by rw [hrl]; have := hP.2.2.2.2; omega)
    have hcyc : Mp.cycles (Cv.row L [1, 2, -1, -2] (Cv.deg L)) = Mp.natRows (Cv.rimCycles L) := by rw [Cv.cycles_row hok]; rfl
    rw [hcyc] at hY
    have hfew := Nat.le_trans (Cv.parts_few (L := L)) hP.2.2.2.2
    have hrf : (Cv.rimCycles L).length ≤ 5 := Cv.liftsN_len hok
    have hheads : ∀ c ∈ Cv.rimCycles L, c ≠ [] ∧ c.headD 0 < Cv.deg L := Cv.cycTo_heads (Cv.rim L) (Cv.deg L) (Cv.deg L)
    have hdeg := hP.2.2.2.2
    have hparts := fun ms (hm : ms ∈ Cv.partsN L) => (Cv.part_of hm).2
    have hcount := fun ms (hm : ms ∈ Cv.partsN L) => Cv.rimIn_beg hP h2 hm
    generalize hPs : Cv.partsN L = Ps at *
    generalize hCs : Cv.rimCycles L = Cs at *
    have HA := Lib.hid hA; have HS := Lib.hid hS; have HR := Lib.hid hR; have HW := Lib.hid hW; have HY := Lib.hid hY
    clear hA hS hR hW hY hrl hcyc
    generalize Cv.row L [1, 2, -1, -2] (Cv.deg L) = RW at *
    go_enter Try.func61, Try.ntmps61
    go_wp2_with fail
    refine HA.out.mono ?_
    rintro e w1 ⟨rfl, hb1⟩
    have Hb1 := Lib.hid hb1; clear hb1
    have hown1 := World.ownsRow_made (base := w.heap.size) (e := 88) (size := 3) w1 #[] 0 Hb1.out.size (by unfold maxLen; omega) (by rfl)
    have hbx1 := Hb1.out.alloc Hb1.out.size (.cells #[] 88)
    have Hown1 := Lib.hid hown1; have Hbx1 := Lib.hid hbx1
    clear hown1 hbx1
    go_wp2_with fail
    refine (HS.out _ Hbx1.out).mono ?_
    rintro e w2 ⟨pa, pc, rfl, _, _, hg2, hb2⟩
    have Hown2 := Lib.hid (own_keep Hown1.out hb2 (fun k hk => (Hown1.out.lt k hk).2))
    have Hbx2 := Lib.hid (Hbx1.out.trans (hb2.mono Hbx1.out.size))
    have Hg2 := Lib.hid hg2
    have hz2 : (w1.alloc (.cells #[] 88)).heap.size ≤ w2.heap.size := hb2.size
    clear hb2 hg2
    go_wp2_with fail
    refine (HR.out _).mono ?_
    rintro e w3 ⟨ra, rc, rfl, _, _, hf3, hb3⟩
    have Hown3 := Lib.hid (own_keep Hown2.out hb3 (fun k hk => (Hown2.out.lt k hk).2))
    have Hbx3 := Lib.hid (Hbx2.out.trans (hb3.mono Hbx2.out.size))
    have Hg3 := Lib.hid (Hg2.out.below hb3)
    have Hf3 := Lib.hid hf3.row
    have hz3 : w2.heap.size ≤ w3.heap.size := hb3.size
    clear hb3 hf3
    go_wp2_with fail
    refine (HW.out _ Hbx3.out _ _ Hf3.out).mono ?_
    rintro e w4 ⟨sa, sc, rfl, _, _, hf4, hb4⟩
    have Hown4 := Lib.hid (own_keep Hown3.out hb4 (fun k hk => (Hown3.out.lt k hk).2))
    have Hbx4 := Lib.hid (Hbx3.out.trans (hb4.mono Hbx3.out.size))
    have Hg4 := Lib.hid (Hg3.out.below hb4)
    have Hf4 := Lib.hid hf4.row
    have hz4 : w3.heap.size ≤ w4.heap.size := hb4.size
    clear hb4 hf4
    go_wp2_with fail
    refine (HY.out _ _ _ Hf4.out).mono ?_
    rintro e w5 ⟨ya, yc, rfl, _, _, hg5, hb5⟩
    have hown5 := own_keep Hown4.out hb5 (fun k hk => (Hown4.out.lt k hk).2)
    have hbx5 := Hbx4.out.trans (hb5.mono Hbx4.out.size)
    have hz5 : w4.heap.size ≤ w5.heap.size := hb5.size
    have hq1 : (w1.alloc (.cells #[] 88)).heap.size = w1.heap.size + 1 := by simp
    rw [hq1] at hz2
    have hgp := (Hg4.out.below hb5).mono (lo' := w1.heap.size + 1) (hi' := w5.heap.size) (by rw [hq1]; exact Nat.le_refl _) (by omega)
    have hgy := hg5.mono (lo' := w1.heap.size + 1) (hi' := w5.heap.size) (by omega) (Nat.le_refl _)
    have hlo : w1.heap.size < w1.heap.size + 1 := by omega
    have Hownq := Lib.hid (show w5.ownsRow w.heap.size 88 3 (.slice (some ⟨w1.heap.size, 0, none⟩) 0 0) 0 (sfCells []) from hown5)
    have Hbxq := Lib.hid hbx5
    have hlh : w1.heap.size + 1 ≤ w5.heap.size := by omega
    obtain ⟨lo, hlo'⟩ : ∃ lo, w1.heap.size + 1 = lo := ⟨_, rfl⟩
    obtain ⟨hi, hhi'⟩ : ∃ hi, w5.heap.size = hi := ⟨_, rfl⟩
    rw [hlo'] at hgp hgy hlo hlh
    rw [hhi'] at hgp hgy hlh
    have Hgp := Lib.hid hgp; have Hgy := Lib.hid hgy; have Hhi := Lib.hid hhi'
    clear hgp hgy hown5 hbx5 hb5 hg5 hz2 hz3 hz4 hz5 hq1 hlo' hhi'
    have hpl : (Mp.natRows Ps).length = Ps.length := by simp [Mp.natRows]
    have hyl : (Mp.natRows Cs).length = Cs.length := by simp [Mp.natRows]
    rw [hpl, hyl]
    obtain ⟨i0, hi0, hz0, hz1, hz2⟩ := info_surf_parts
    have Hi0 := Lib.hid hi0; have Hz0 := Lib.hid hz0; have Hz1 := Lib.hid hz1; have Hz2 := Lib.hid hz2
    have Hparts := Lib.hid hparts; have Hcount := Lib.hid hcount; have Hheads := Lib.hid hheads; have Hact := Lib.hid hact
    clear hparts hcount hheads hi0 hz0 hz1 hz2 hPs hCs hpl hyl hact
    by_cases h0 : g = 0
    · subst h0
      go_wp2
      go_loopw [6, 9, 10, 11, 12] (fun ov kv _ _ _ wk => ∃ k : Nat, k ≤ Ps.length ∧ kv = .int .i64 k ∧ ∃ og cap, ov = .slice (some ⟨og, 0, none⟩) k cap ∧ (og < lo ∨ hi ≤ og) ∧ hi ≤ wk.heap.size ∧ Hid (wk.ownsRow w.heap.size 88 3 ov k (sfCells ((Ps.take k).map (Cv.coverOf 0 L)))) ∧ Hid (Below w.heap.size w wk) ∧ Hid (GridIn wk lo hi pa (Mp.natRows Ps)) ∧ Hid (GridIn wk lo hi ya (Mp.natRows Cs))) (fun _ kv _ _ _ _ => Ps.length - (intOf kv).toNat)
      case atStart => exact ⟨0, Nat.zero_le _, rfl, _, _, rfl, Or.inl hlo, by rw [Hhi.out]; exact Nat.le_refl _, Hownq, Hbxq, Hgp, Hgy⟩
      case round =>
        obtain ⟨k, hk, rfl, og, cap, rfl, hog, hsz, hown, hb, hgp, hgy⟩ := hrel
        obtain ⟨wo, hwo⟩ : ∃ wo, wo = wr := ⟨_, rfl⟩
        subst hwo
        by_cases hlt : k < Ps.length
        · obtain ⟨ms, hms⟩ := get_some hlt
          have hrow : (Mp.natRows Ps)[k]? = some (intsOf ms) := by
            have : (Mp.natRows Ps)[k]? = (Ps[k]?).map intsOf := by simp [Mp.natRows]; rfl
            rw [this, hms]; rfl
          obtain ⟨b, o, ra, rc, rfl, hbo, hcell, hra⟩ := hgp.out.grid.get hrow
          rw [intsOf_len] at hcell
          have hl5 := Hparts.out ms (get_mem hms)
          have hcnt := Hcount.out ms (get_mem hms)
          have hsn : (Ps.take (k + 1)).map (Cv.coverOf 0 L) = (Ps.take k).map (Cv.coverOf 0 L) ++ [Cv.coverOf 0 L ms] := by
            rw [List.take_add_one, hms]; simp
          have hv : Cv.coverOf 0 L ms = ((2 + (ms.length : Int) - (Cs.countP (Cv.beg ms) : Int)) / 2, 0, (Cs.countP (Cv.beg ms) : Int)) := by rw [← hcnt]; exact if_pos rfl
          have hfewb : Cs.countP (Cv.beg ms) ≤ ms.length := by rw [← hcnt]; exact Cv.rimIn_few L ms
          have hcl : sfCells ((Ps.take (k + 1)).map (Cv.coverOf 0 L)) = sfCells ((Ps.take k).map (Cv.coverOf 0 L)) ++ [.int .i64 ((2 + (ms.length : Int) - (Cs.countP (Cv.beg ms) : Int)) / 2), .int .i64 0, .int .i64 (Cs.countP (Cv.beg ms) : Int)] := by rw [hsn, sfCells_snoc, hv]
          have hF := fun W (hb2 : Below wo.heap.size wo W) (x : Int) => spec_l3Find2 ra rc (intsOf ms) x W ((hra.below (Below.refl _ _)).below hb2) (by rw [intsOf_len]; omega)
          rw [intsOf_len] at hF
          have hstep := fun i c (h : Cs[i]? = some c) => Cv.beg_step (ms := ms) h
          have hbd : ∀ i, (Cs.take i).countP (Cv.beg ms) ≤ 5 := fun i => Nat.le_trans List.countP_le_length (by rw [List.length_take]; omega)
          have hall : (Cs.take Cs.length).countP (Cv.beg ms) = Cs.countP (Cv.beg ms) := by rw [List.take_of_length_le (Nat.le_refl _)]
          have hz0 : (Cs.take 0).countP (Cv.beg ms) = 0 := rfl
          have Hbg := Lib.hid (show ∀ c, Cv.beg ms c = decide (((c.headD 0 : Nat) : Int) ∈ intsOf ms) from fun c => rfl)
          generalize ms.length = ml at *
          have k0 : (0 : Int) ≤ (k : Int) := by omega
          have k1 : (k : Int) < (Ps.length : Int) := by omega
          have hm1 : k + 1 ≤ maxLen := by unfold maxLen; omega
          have hm2 : (k + 1) * 24 ≤ 140737488355328 := by omega
          have Hm1 := Lib.hid hm1; have Hm2 := Lib.hid hm2; have Hcl := Lib.hid hcl; have Hstep := Lib.hid hstep; have Hbd := Lib.hid hbd; have Hall := Lib.hid hall; have HF := Lib.hid hF; have Hz0' := Lib.hid hz0
          have Hcellp := Lib.hid hcell
          clear hm1 hm2 hcl hsn hv hrow hms hra hcnt hstep hbd hall hF hz0
          go_wp2
          go_loopw [12] (fun iv wr => ∃ i : Nat, i ≤ Cs.length ∧ iv = .int .i64 i ∧ Hid (Blk wr wo.heap.size 88 #[.int .i64 0, .int .i64 0, .int .i64 (((Cs.take i).countP (Cv.beg ms) : Nat) : Int)]) ∧ Hid (Below wo.heap.size wo wr)) (fun iv _ => Cs.length - (intOf iv).toNat)
          case atStart => exact ⟨0, Nat.zero_le _, rfl, Lib.hid (by rw [Hz0'.out]; exact Blk.new wo _ _), Lib.hid ((Below.refl _ _).alloc (Nat.le_refl _) _)⟩
          case round =>
            obtain ⟨i, hi', rfl, hblk, hbi⟩ := hrel
            by_cases hlt2 : i < Cs.length
            · obtain ⟨cy, hcy⟩ := get_some hlt2
              have hcrow : (Mp.natRows Cs)[i]? = some (intsOf cy) := by
                have : (Mp.natRows Cs)[i]? = (Cs[i]?).map intsOf := by simp [Mp.natRows]; rfl
                rw [this, hcy]; rfl
              obtain ⟨bc, oc, qa, qc, rfl, hbc, hccell, hqa⟩ := hgy.out.grid.get hcrow
              rw [intsOf_len] at hccell
              have hne := (Hheads.out cy (get_mem hcy)).1
              have hh0 : (intsOf cy)[0]? = some (((cy.headD 0 : Nat)) : Int) := by
                cases cy with
                | nil => exact absurd rfl hne
                | cons x xs => rfl
              have hcl0 : 0 < cy.length := List.length_pos_iff.2 hne
              obtain ⟨bq, oq, rfl, hbq, hqcell⟩ := intCells_get? hqa hh0
              rw [Nat.add_zero] at hqcell
              have hst := Hstep.out i cy hcy
              have hbg := Hbg.out cy
              have hbd1 := Hbd.out i
              generalize hhd : ((cy.headD 0 : Nat) : Int) = h at *
              generalize cy.length = cl at *
              generalize hB : Cv.beg ms cy = B at *
              obtain ⟨bt, hbt⟩ : ∃ bt : Nat, (if B then 1 else 0) = bt := ⟨_, rfl⟩
              have hbt2 : (if B then (1 : Int) else 0) = (bt : Int) := by cases B <;> (simp at hbt; simp [← hbt])
              have hbt1 : bt ≤ 1 := by cases B <;> (simp at hbt; omega)
              rw [hbt] at hst
              have hFx := HF.out wr.drew (Below.drew hbi.out) h
              rw [← hbg] at hFx
              have hBx := spec_l1Bit B wr.drew
              rw [hbt2] at hBx
              generalize hCi : (Cs.take i).countP (Cv.beg ms) = Ci at *
              have hn2 : wr.drew.cell? ⟨wo.heap.size, 2, none⟩ = some (.int .i64 (Ci : Int)) := hblk.out.drew.cell 2
              have hnf : wr.drew.frozen? ⟨wo.heap.size, 2, none⟩ = false := hblk.out.drew.frozen 2
              have hbdr := Below.drew hbi.out
              have hp2 : wr.drew.cell? ⟨b, o + k, none⟩ = some (.slice ra ml rc) := by rw [hbdr.cell hbo]; exact Hcellp.out
              have hc2 : wr.drew.cell? ⟨bc, oc + i, none⟩ = some (.slice (some ⟨bq, oq, none⟩) cl qc) := by rw [hbdr.cell hbc]; exact hccell
              have hq2 : wr.drew.cell? ⟨bq, oq, none⟩ = some (.int .i64 h) := by rw [hbdr.cell hbq]; exact hqcell
              have Hblk2 := Lib.hid (hblk.out.drew.put 2 (.int .i64 ((Ci + bt : Nat) : Int)))
              have Hbe2 := Lib.hid (hbdr.setCell (p := ⟨wo.heap.size, 2, none⟩) (Nat.le_refl _) (.int .i64 ((Ci + bt : Nat) : Int)))
              have i0' : (0 : Int) ≤ (i : Int) := by omega
              have i1' : (i : Int) < (Cs.length : Int) := by omega
              have l0' : (0 : Int) < (cl : Int) := by omega
              have x0 : (0 : Int) ≤ (Ci : Int) := by omega
              have x1 : (0 : Int) ≤ (bt : Int) := by omega
              have x2 : (Ci : Int) + (bt : Int) ≤ 6 := by omega
              have x3 : IntKind.i64.wrap ((Ci : Int) + (bt : Int)) = (Ci : Int) + (bt : Int) := wrap_small (by omega) (by omega)
              have HFx := Lib.hid hFx; have HBx := Lib.hid hBx; have Hst := Lib.hid hst
              have HS0 := Lib.hid (And.intro hn2 (And.intro hp2 (And.intro hc2 hq2)))
              clear hFx hBx hst hbg hbd1 hbt hbt2 hbt1 hB hhd hCi hcy hcrow hqa hh0 hne hccell hqcell hbc hbq hn2 hp2 hc2 hq2
              go_wp2
              refine wp_region_free 17 (by kernel_rfl) rfl ?_
              refine any_head 15 15 2 (fun w' => w'.cell? ⟨wo.heap.size, 2, none⟩ = some (.int .i64 (Ci : Int)) ∧ w'.cell? ⟨b, o + k, none⟩ = some (.slice ra ml rc) ∧ w'.cell? ⟨bc, oc + i, none⟩ = some (.slice (some ⟨bq, oq, none⟩) cl qc) ∧ w'.cell? ⟨bq, oq, none⟩ = some (.int .i64 h)) rfl rfl HS0.out (fun hS => ?_)
              refine HdAny.take (i := 0) (v := ?_) rfl (by kernel_rfl) (fun _ _ _ h => h) rfl ?_ hS ?_
              rotate_left; · (intro w' hSw; go_split_ands; go_simp; try with_reducible rfl)
              try simp only [Act.put, List.setIfInBounds_toArray, List.set_cons_zero, List.set_cons_succ]
              refine HdAny.take (i := 1) (v := ?_) rfl (by kernel_rfl) (fun _ _ _ h => h) rfl ?_ hS ?_
              rotate_left; · (intro w' hSw; go_split_ands; go_simp; try with_reducible rfl)
              try simp only [Act.put, List.setIfInBounds_toArray, List.set_cons_zero, List.set_cons_succ]
              refine HdAny.take (i := 2) (v := ?_) rfl (by kernel_rfl) (fun _ _ _ h => h) rfl ?_ hS ?_
              rotate_left; · (intro w' hSw; go_split_ands; go_simp; try with_reducible rfl)
              try simp only [Act.put, List.setIfInBounds_toArray, List.set_cons_zero, List.set_cons_succ]
              refine HdAny.take (i := 3) (v := ?_) rfl (by kernel_rfl) (fun _ _ _ h => h) rfl ?_ hS ?_
              rotate_left; · (intro w' hSw; go_split_ands; go_simp; try with_reducible rfl)
              try simp only [Act.put, List.setIfInBounds_toArray, List.set_cons_zero, List.set_cons_succ]
              refine HdAny.take (i := 4) (v := ?_) rfl (by kernel_rfl) (fun _ _ _ h => h) rfl ?_ hS ?_
              rotate_left; · (intro w' hSw; go_split_ands; go_simp; try with_reducible rfl)
              try simp only [Act.put, List.setIfInBounds_toArray, List.set_cons_zero, List.set_cons_succ]
              refine HdAny.take (i := 5) (v := ?_) rfl (by kernel_rfl) (fun _ _ _ h => h) rfl ?_ hS ?_
              rotate_left; · (intro w' hSw; go_split_ands; go_simp; try with_reducible rfl)
              try simp only [Act.put, List.setIfInBounds_toArray, List.set_cons_zero, List.set_cons_succ]
              refine HdAny.take (i := 6) (v := ?_) rfl (by kernel_rfl) (fun _ _ _ h => h) rfl ?_ hS ?_
              rotate_left; · (intro w' hSw; go_split_ands; go_simp; try with_reducible rfl)
              try simp only [Act.put, List.setIfInBounds_toArray, List.set_cons_zero, List.set_cons_succ]
              refine HdAny.take (i := 7) (v := ?_) rfl (by kernel_rfl) (fun _ _ _ h => h) rfl ?_ hS ?_
              rotate_left; · (intro w' hSw; go_split_ands; go_simp; try with_reducible rfl)
              try simp only [Act.put, List.setIfInBounds_toArray, List.set_cons_zero, List.set_cons_succ]
              refine HdAny.take (i := 8) (v := ?_) rfl (by kernel_rfl) (fun _ _ _ h => h) rfl ?_ hS ?_
              rotate_left; · (intro w' hSw; go_split_ands; go_simp; try with_reducible rfl)
              try simp only [Act.put, List.setIfInBounds_toArray, List.set_cons_zero, List.set_cons_succ]
              refine HdAny.take (i := 9) (v := ?_) rfl (by kernel_rfl) (fun _ _ _ h => h) rfl ?_ hS ?_
              rotate_left; · (intro w' hSw; go_split_ands; go_simp; try with_reducible rfl)
              try simp only [Act.put, List.setIfInBounds_toArray, List.set_cons_zero, List.set_cons_succ]
              refine HdAny.take (i := 10) (v := ?_) rfl (by kernel_rfl) (fun _ _ _ h => h) rfl ?_ hS ?_
              rotate_left; · (intro w' hSw; go_split_ands; go_simp; try with_reducible rfl)
              try simp only [Act.put, List.setIfInBounds_toArray, List.set_cons_zero, List.set_cons_succ]
              refine HdAny.take (i := 11) (v := ?_) rfl (by kernel_rfl) (fun _ _ _ h => h) rfl ?_ hS ?_
              rotate_left; · (intro w' hSw; go_split_ands; go_simp; try with_reducible rfl)
              try simp only [Act.put, List.setIfInBounds_toArray, List.set_cons_zero, List.set_cons_succ]
              refine HdAny.one (i := 12) rfl (by kernel_rfl) (fun K hK => ?_)
              go_simp
              go_at_call 143
              refine HFx.out.mono ?_
              rintro e w7 ⟨rfl, hw7⟩
              rw [hw7]; clear hw7 w7
              go_simp
              refine hK.out _ _ hS (fun hS => ?_)
              clear hK K
              try simp only [Act.put, List.setIfInBounds_toArray, List.set_cons_zero, List.set_cons_succ]
              refine HdAny.one (i := 13) rfl (by kernel_rfl) (fun K hK => ?_)
              go_simp
              go_at_call 77
              refine HBx.out.mono ?_
              rintro e w7 ⟨rfl, hw7⟩
              rw [hw7]; clear hw7 w7
              go_simp
              refine hK.out _ _ hS (fun hS => ?_)
              clear hK K
              try simp only [Act.put, List.setIfInBounds_toArray, List.set_cons_zero, List.set_cons_succ]
              refine HdAny.take (i := 14) (v := ?_) rfl (by kernel_rfl) (fun _ _ _ h => h) rfl ?_ hS ?_
              rotate_left; · (intro w' hSw; go_split_ands; go_simp; try with_reducible rfl)
              try simp only [Act.put, List.setIfInBounds_toArray, List.set_cons_zero, List.set_cons_succ]
              refine HdAny.done (by kernel_rfl) ?_
              simp only [List.drop_succ_cons, List.drop_zero]
              go_wp2
              go_roundw
              case rel => exact ⟨i + 1, by omega, by go_num, Lib.hid (by rw [Hst.out]; exact Hblk2.out), Hbe2⟩
              case measure => simp [intOf]; omega
            · obtain rfl : i = Cs.length := by omega
              rw [Hall.out] at hblk
              generalize Cs.countP (Cv.beg ms) = B at *
              have b0 : wr.cell? ⟨wo.heap.size, 0, none⟩ = some (.int .i64 0) := hblk.out.cell 0
              have b1 : wr.cell? ⟨wo.heap.size, 1, none⟩ = some (.int .i64 0) := hblk.out.cell 1
              have b2 : wr.cell? ⟨wo.heap.size, 2, none⟩ = some (.int .i64 (B : Int)) := hblk.out.cell 2
              have f0 := hblk.out.frozen 0
              obtain ⟨T, hT⟩ : ∃ T, 2 + (ml : Int) - (B : Int) = T := ⟨_, rfl⟩
              have t0 : (0 : Int) ≤ T := by omega
              have t1 : T ≤ 7 := by omega
              have Hcl2 := Hcl.out
              rw [hT] at Hcl2
              obtain ⟨H, hH⟩ : ∃ H, T / 2 = H := ⟨_, rfl⟩
              rw [hH] at Hcl2
              have hd : T.tdiv 2 = H := by rw [Int.tdiv_eq_ediv_of_nonneg t0]; exact hH
              have q0 : (0 : Int) ≤ H := by omega
              have q1 : H ≤ 7 := by omega
              have wa : IntKind.i64.wrap (2 + (ml : Int)) = 2 + (ml : Int) := wrap_small (by omega) (by omega)
              have wb : IntKind.i64.wrap (2 + (ml : Int) - (B : Int)) = T := by rw [hT]; exact wrap_small (by omega) (by omega)
              have wc : IntKind.i64.wrap H = H := wrap_small (by omega) (by omega)
              have v0 : (0 : Int) ≤ (ml : Int) := by omega
              have v1 : (ml : Int) ≤ 5 := by omega
              have Hcl3 := Lib.hid Hcl2
              have hbs := hbi.out.setCell (p := ⟨wo.heap.size, 0, none⟩) (Nat.le_refl _) (.int .i64 H)
              have hW := hbs.alloc hbs.size (.cells #[.int .i64 H, .int .i64 0, .int .i64 (B : Int)] 88)
              have hownS := own_keep hown.out hbs (fun j hj => (hown.out.lt j hj).2)
              have Hnext := Lib.hid (fun (v6 : Value) (w6 : World) us hown6 hg6 hk6 => sf_round (v6 := v6) (w6 := w6) (us := us) hsz hog hb.out hgp.out hgy.out hown.out hW hg6 hk6 hown6)
              have Hs1 := Lib.hid (show (wr.setCell ⟨wo.heap.size, 0, none⟩ (.int .i64 H)).heap.size = wr.heap.size by simp)
              have Hbs := Lib.hid (show w.heap.size ≤ (wr.setCell ⟨wo.heap.size, 0, none⟩ (.int .i64 H)).heap.size by have h1 := hbs.size; have h2 := hb.out.size; omega)
              have Hown := Lib.hid hownS
              clear hbs hW hownS hT hH hsz hog Hcl2 hblk
              go_wp2_with (at_builtin; refine append_surf rfl (.tmp 74) (.tmp 76) 53 rfl w.heap.size 88 i0 _ 24 Try.underlying53 Hi0.out Hz0.out Hz1.out Hz2.out (by rfl) _ _ _ rfl Hown.out rfl rfl rfl 1 (by rw [Hs1.out]; rfl) Hm1.out Hm2.out Hbs.out ?_; intro v6 w6 hown6 hg6 hk6)
              obtain ⟨g6, c6, rfl, ho6, hs6, hw6, hb6, hgp6, hgy6⟩ := Hnext.out v6 w6 _ hown6 hg6 hk6
              have Hw6 := Lib.hid hw6; have Hb6 := Lib.hid hb6; have Hgp6 := Lib.hid hgp6; have Hgy6 := Lib.hid hgy6
              clear hown6 hg6 hk6 hw6 hb6 hgp6 hgy6
              go_wp2
              go_roundw
              case rel => exact ⟨k + 1, by omega, by go_num, g6, c6, rfl, ho6, hs6, Lib.hid (by rw [Hcl3.out]; exact Hw6.out), Hb6, Hgp6, Hgy6⟩
              case measure => simp [intOf]; omega
        · obtain rfl : k = Ps.length := by omega
          have hw := hown.out
          rw [List.take_of_length_le (Nat.le_refl _)] at hw
          have Hw := Lib.hid hw
          clear hw
          go_wp2
          go_ret2
          exact ⟨_, rfl, by rw [List.length_map]; exact Hw.out, hb.out⟩
    · have dz : (g == 0) = false := beq_eq_false_iff_ne.2 h0
      have hg12 : g = 1 ∨ g = 2 := by have := Hact.out.1; omega
      go_wp2
      go_loopw [6, 9, 10, 11, 12] (fun ov kv _ _ _ wk => ∃ k : Nat, k ≤ Ps.length ∧ kv = .int .i64 k ∧ ∃ og cap, ov = .slice (some ⟨og, 0, none⟩) k cap ∧ (og < lo ∨ hi ≤ og) ∧ hi ≤ wk.heap.size ∧ Hid (wk.ownsRow w.heap.size 88 3 ov k (sfCells ((Ps.take k).map (Cv.coverOf g L)))) ∧ Hid (Below w.heap.size w wk) ∧ Hid (GridIn wk lo hi pa (Mp.natRows Ps)) ∧ Hid (GridIn wk lo hi ya (Mp.natRows Cs))) (fun _ kv _ _ _ _ => Ps.length - (intOf kv).toNat)
      case atStart => exact ⟨0, Nat.zero_le _, rfl, _, _, rfl, Or.inl hlo, by rw [Hhi.out]; exact Nat.le_refl _, Hownq, Hbxq, Hgp, Hgy⟩
      case round =>
        obtain ⟨k, hk, rfl, og, cap, rfl, hog, hsz, hown, hb, hgp, hgy⟩ := hrel
        by_cases hlt : k < Ps.length
        · obtain ⟨ms, hms⟩ := get_some hlt
          have hrow : (Mp.natRows Ps)[k]? = some (intsOf ms) := by
            have : (Mp.natRows Ps)[k]? = (Ps[k]?).map intsOf := by simp [Mp.natRows]; rfl
            rw [this, hms]; rfl
          obtain ⟨b, o, ra, rc, rfl, hbo, hcell, hra⟩ := hgp.out.grid.get hrow
          rw [intsOf_len] at hcell
          have hl5 := Hparts.out ms (get_mem hms)
          have hsn : (Ps.take (k + 1)).map (Cv.coverOf g L) = (Ps.take k).map (Cv.coverOf g L) ++ [Cv.coverOf g L ms] := by
            rw [List.take_add_one, hms]; simp
          have hv : Cv.coverOf g L ms = (1 + (ms.length : Int) * (g - 1), 0, 0) := if_neg h0
          have hcl : sfCells ((Ps.take (k + 1)).map (Cv.coverOf g L)) = sfCells ((Ps.take k).map (Cv.coverOf g L)) ++ [.int .i64 (1 + (ms.length : Int) * (g - 1)), .int .i64 0, .int .i64 0] := by rw [hsn, sfCells_snoc, hv]
          generalize ms.length = ml at *
          obtain ⟨G1, hG1⟩ : ∃ G1, g - 1 = G1 := ⟨_, rfl⟩
          rw [hG1] at hcl
          obtain ⟨Z, hZ⟩ : ∃ Z, (ml : Int) * G1 = Z := ⟨_, rfl⟩
          rw [hZ] at hcl
          obtain ⟨H, hH⟩ : ∃ H, 1 + Z = H := ⟨_, rfl⟩
          rw [hH] at hcl
          have hZb : 0 ≤ Z ∧ Z ≤ 5 := by
            rcases hg12 with e | e
            · have : G1 = 0 := by omega
              rw [← hZ, this]; omega
            · have : G1 = 1 := by omega
              rw [← hZ, this]; omega
          have wg : IntKind.i64.wrap (g - 1) = G1 := by rw [hG1]; exact wrap_small (by omega) (by omega)
          have wm : IntKind.i64.wrap ((ml : Int) * G1) = Z := by rw [hZ]; exact wrap_small (by omega) (by omega)
          have wh : IntKind.i64.wrap (1 + Z) = H := by rw [hH]; exact wrap_small (by omega) (by omega)
          have k0 : (0 : Int) ≤ (k : Int) := by omega
          have k1 : (k : Int) < (Ps.length : Int) := by omega
          have hm1 : k + 1 ≤ maxLen := by unfold maxLen; omega
          have hm2 : (k + 1) * 24 ≤ 140737488355328 := by omega
          have Hm1 := Lib.hid hm1; have Hm2 := Lib.hid hm2; have Hcl := Lib.hid hcl
          clear hm1 hm2 hcl hsn hv hrow hms hra hG1 hZ hH hZb hl5
          have hW := ((Below.refl wr.heap.size wr).alloc (Nat.le_refl _) (.cells #[.int .i64 H, .int .i64 0, .int .i64 0] 88)).alloc (by simp) (.cells #[.int .i64 H, .int .i64 0, .int .i64 0] 88)
          have Hnext := Lib.hid (fun (v6 : Value) (w6 : World) us hown6 hg6 hk6 => sf_round (v6 := v6) (w6 := w6) (us := us) hsz hog hb.out hgp.out hgy.out hown.out hW hg6 hk6 hown6)
          have Hs1 := Lib.hid (two_size wr (.cells #[.int .i64 H, .int .i64 0, .int .i64 0] 88))
          have Hbs := Lib.hid (show w.heap.size ≤ (wr.alloc (.cells #[.int .i64 H, .int .i64 0, .int .i64 0] 88)).heap.size by rw [two_size]; have := hb.out.size; omega)
          have Hown := Lib.hid (hown.out.alloc (.cells #[.int .i64 H, .int .i64 0, .int .i64 0] 88))
          clear hW hsz hog
          go_wp2_with (at_builtin; refine append_surf rfl (.tmp 74) (.tmp 76) 53 rfl w.heap.size 88 i0 _ 24 Try.underlying53 Hi0.out Hz0.out Hz1.out Hz2.out (by rfl) _ _ _ rfl Hown.out rfl rfl rfl 1 (by rw [Hs1.out]; rfl) Hm1.out Hm2.out Hbs.out ?_; intro v6 w6 hown6 hg6 hk6)
          obtain ⟨g6, c6, rfl, ho6, hs6, hw6, hb6, hgp6, hgy6⟩ := Hnext.out v6 w6 _ hown6 hg6 hk6
          have Hw6 := Lib.hid hw6; have Hb6 := Lib.hid hb6; have Hgp6 := Lib.hid hgp6; have Hgy6 := Lib.hid hgy6
          clear hown6 hg6 hk6 hw6 hb6 hgp6 hgy6
          go_wp2
          go_roundw
          case rel => exact ⟨k + 1, by omega, by go_num, g6, c6, rfl, ho6, hs6, Lib.hid (by rw [Hcl.out]; exact Hw6.out), Hb6, Hgp6, Hgy6⟩
          case measure => simp [intOf]; omega
        · obtain rfl : k = Ps.length := by omega
          have hw := hown.out
          rw [List.take_of_length_le (Nat.le_refl _)] at hw
          have Hw := Lib.hid hw
          clear hw
          go_wp2
          go_ret2
          exact ⟨_, rfl, by rw [List.length_map]; exact Hw.out, hb.out⟩
  · rw [decide_eq_false hact] at hA ⊢
    have hcv : Cv.covers g L = [] := if_neg hact
    rw [hcv]
    have HA := Lib.hid hA
    clear hA hact ha hcv
    go_enter Try.func61, Try.ntmps61
    go_wp2_with fail
    refine HA.out.mono ?_
    rintro e w1 ⟨rfl, hb1⟩
    have Hb1 := Lib.hid hb1; clear hb1
    go_wp2
    go_ret2
    exact ⟨_, rfl, World.ownsRow_made (base := w.heap.size) (e := 88) (size := 3) w1 #[] 0 Hb1.out.size (by unfold maxLen; omega) (by rfl), Hb1.out.alloc Hb1.out.size _⟩
end Go.Proofs.Ytodgongemoabiaa
namespace Go.Proofs.Ytodgongemoabiaa
open Go.RowKit

theorem Cv.covers_few (g : Int) (L : List (List Int)) : (Cv.covers g L).length ≤ 1000000 := by
  unfold Cv.covers
  split
  · rename_i h
    rw [List.length_map]
    exact Nat.le_trans (Nat.le_trans Cv.parts_few h.2.1.2.2.2.2) (by decide)
  · exact Nat.zero_le _
theorem fnExactCoverOf.spec_CoverOf (g : Int) (a : Option Addr) (c : Nat) (L : List (List Int)) (w : World) (_ : -9223372036854775808 ≤ g) (_ : g ≤ 9223372036854775807) (ha : GridAt w a L) (ht : tot L ≤ 1048576) :
    Calls Try.prog 61 #[.int .i64 g, .slice a L.length c] w fun e w' => ∃ a c, e = .returned (.tuple #[.slice a (Cv.covers g L).length c, .bool (decide (Cv.Act g L))]) ∧ (Cv.covers g L).length ≤ c ∧ c ≤ maxLen ∧ SfIn w' w.heap.size w'.heap.size a (Cv.covers g L) ∧ Below w.heap.size w w' :=
  (Go.Proofs.Ytodgongemoabiaa.spec_CoverOf g a c L w ha (tot_rows ht).1 (tot_rows ht).2).mono fun _ _ h => h.exact
theorem fnExactCoverOf.impl_CoverOf (g : Int) (a : Option Addr) (c : Nat) (L : List (List Int)) (w : World) (_ : -9223372036854775808 ≤ g) (_ : g ≤ 9223372036854775807) (ha : GridAt w a L) (ht : tot L ≤ 1048576) :
    Calls Try.prog 62 #[.int .i64 g, .slice a L.length c] w fun e w' => ∃ a c, e = .returned (.tuple #[.slice a (Cv.covers g L).length c, .bool (decide (Cv.Act g L))]) ∧ (Cv.covers g L).length ≤ c ∧ c ≤ maxLen ∧ SfIn w' w.heap.size w'.heap.size a (Cv.covers g L) ∧ Below w.heap.size w w' :=
  (Go.Proofs.Ytodgongemoabiaa.impl_CoverOf g a c L w ha (tot_rows ht).1 (tot_rows ht).2).mono fun _ _ h => h.exact
end Go.Proofs.Ytodgongemoabiaa
