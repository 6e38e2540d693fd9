/-
  The walk of the program's SheetParts.
-/
import Derived.Test.YtodgongemoabiaaBase
import Derived.Test.YtodgongemoabiaaSlice
import Derived.Test.YtodgongemoabiaaIntRow
import Derived.Test.YtodgongemoabiaaInts
import Derived.Test.YtodgongemoabiaaOwn
import Derived.Test.YtodgongemoabiaaAppend
import Derived.Test.YtodgongemoabiaaWord
import Derived.Test.YtodgongemoabiaaGrid
import Derived.Test.YtodgongemoabiaaGridWalk
import Derived.Test.YtodgongemoabiaaGridRows
import Derived.Test.YtodgongemoabiaaGivesRows
import Derived.Test.YtodgongemoabiaaClass
import Derived.Test.YtodgongemoabiaaTri
import Derived.Test.YtodgongemoabiaaLab
import Derived.Test.YtodgongemoabiaaMap
import Derived.Test.YtodgongemoabiaaMapA
import Derived.Test.YtodgongemoabiaaMapB
import Derived.Test.YtodgongemoabiaaBag
import Derived.Test.YtodgongemoabiaaCov
import Derived.Test.YtodgongemoabiaaCovP
import Derived.Test.YtodgongemoabiaaCovQ
import Derived.Test.YtodgongemoabiaaCovB
import Derived.Test.YtodgongemoabiaaCovD
import Derived.Deep.QuietTactic
import Derived.BigQuiet
import Derived.StillTailTactics
namespace Go.Proofs.Ytodgongemoabiaa
open Go.RowKit

set_option maxRecDepth 10000 in
set_option maxHeartbeats 1000000 in
/-- Where a label stands first. -/
theorem lib_IndexLeast (a : Option Addr) (cap n s : Nat) (f : Nat → Nat) (w : World) (ha : RowAt w a (intCells (Cls.row f n))) (hs : s < n) (hn : n ≤ 1000) :
    Calls Try.prog 139 #[.slice a n cap, .int .i64 ((f s : Nat) : Int)] w fun e w' => e = .returned (.int .i64 ((Cv.leastOf f s : Nat) : Int)) ∧ w' = w := by
  have hcells : ∀ j, j < n → ∃ b o, a = some ⟨b, o, none⟩ ∧ w.cell? ⟨b, o + j, none⟩ = some (.int .i64 ((f j : Nat) : Int)) := fun j hj => by
    obtain ⟨b, o, e, _, hc⟩ := intCells_get? ha (Cls.row_get hj)
    exact ⟨b, o, e, hc⟩
  have Hcells := Lib.hid hcells
  obtain ⟨h1, h2, h3⟩ := Cv.leastOf_spec f s
  have hq : Cv.leastOf f s < n := by omega
  have H1 := Lib.hid h1; have H3 := Lib.hid h3
  generalize Cv.leastOf f s = q at *
  obtain ⟨x, hx⟩ : ∃ x, f s = x := ⟨_, rfl⟩
  rw [hx]
  have Hx := Lib.hid hx
  clear ha hcells h1 h3 hx
  go_enter Try.func139, Try.ntmps139
  go_wp2
  go_loopw [5, 8] (fun _ iv wr => ∃ i : Nat, i ≤ q ∧ iv = .int .i64 i ∧ wr = w) (fun _ iv _ => n - (intOf iv).toNat)
  case atStart => exact ⟨0, by omega, rfl, rfl⟩
  case round =>
    obtain ⟨i, hi, rfl, rfl⟩ := hrel
    have hlt : i < n := by omega
    obtain ⟨b, o, rfl, hcell⟩ := Hcells.out i hlt
    have hlti : (i : Int) < (n : Int) := by omega
    by_cases he : f i = x
    · have Hiq := Lib.hid (show i = q from by
        rcases Nat.lt_or_ge i q with h | h
        · exact absurd (he.trans Hx.out.symm) (H3.out i h)
        · omega)
      have heq : ((x : Int) == ((f i : Nat) : Int)) = true := by rw [he]; simp
      clear he
      generalize ((f i : Nat) : Int) = y at *
      go_wp2
      go_ret
      exact ⟨by rw [Hiq.out]; rfl, rfl⟩
    · have hne : i ≠ q := fun e => he (by rw [e]; exact H1.out.trans Hx.out)
      have heq : ((x : Int) == ((f i : Nat) : Int)) = false := beq_eq_false_iff_ne.2 (by omega)
      clear he
      generalize ((f i : Nat) : Int) = y at *
      go_wp2
      go_roundw
      case rel => exact ⟨i + 1, by omega, by go_num, trivial⟩
      case measure => simp [intOf]; omega

namespace Cv
theorem intsOf_filter_rows (c : Nat → Nat) (n : Nat) {hs : List Hd} (h : hs.map Hd.l = Mp.natRows (rowsTo c n n)) : (hs.filter Hd.some).map Hd.l = Mp.natRows (classes c n) := by
  rw [← filter_rows]
  unfold Mp.natRows at *
  have h1 : (hs.filter Hd.some).map Hd.l = (hs.map Hd.l).filter fun r => !r.isEmpty := by
    rw [List.filter_map]; rfl
  rw [h1, h, List.filter_map]
  congr 1
  refine List.filter_congr fun r _ => ?_
  show (!(r.map _).isEmpty) = !r.isEmpty
  cases r <;> rfl
theorem natRows_set (C : List (List Nat)) (k : Nat) (r : List Nat) : Mp.natRows (C.set k r) = (Mp.natRows C).set k (intsOf r) := by
  unfold Mp.natRows; rw [List.map_set]; rfl
theorem rowsTo_get {c : Nat → Nat} {n t k : Nat} (hk : k < n) : (rowsTo c n t)[k]? = some (rowAt c t k) := by
  unfold rowsTo; rw [List.getElem?_map, List.getElem?_range hk]; rfl
theorem rowAt_len (c : Nat → Nat) (t k : Nat) : (rowAt c t k).length ≤ t := by
  unfold rowAt
  have := List.length_filter_le (fun s => leastOf c s == k) (List.range t)
  rwa [List.length_range] at this
end Cv

set_option maxRecDepth 10000 in
set_option maxHeartbeats 4000000 in
theorem impl_SheetParts (a : Option Addr) (c : Nat) (L : List (List Int)) (w : World) (ha : GridAt w a L) (hL : ∀ p ∈ L, p.length ≤ 1048576) (hn : L.length ≤ 1048576) :
    Calls Try.prog 59 #[.slice a L.length c] w fun e w' => GivesRows w (Cv.parts L) e w' := by
  have hcP := impl_doPermute a c L w ha hL hn
  by_cases hP : Cv.Perms L
  · rw [decide_eq_true hP] at hcP
    rw [Cv.parts_of hP]
    obtain ⟨i0, hi0, hz0, hz1, hz2⟩ := info_int_parts
    have h5 := hP.2.2.2.2
    have h1 := hP.2.2.2.1
    have hl1 := hP.2.1
    have hl8 := hP.2.2.1
    obtain ⟨r0, hr0, hr0l⟩ := Cv.head_get (L := L) (by omega)
    obtain ⟨b0, o0, a0, c0, rfl, hbw0, hcell0, _⟩ := ha.get hr0
    rw [Nat.add_zero, hr0l] at hcell0
    have i2 : 0 < L.length := by omega
    have hlt : ∀ q ∈ L, ∀ s, s < Cv.deg L → q[s]? = some ((Mp.at_ q s : Nat) : Int) ∧ Mp.at_ q s < Cv.deg L := fun q hq s hs => by
      obtain ⟨k1, k2⟩ := hP.1 q hq
      refine ⟨Mp.at_get k2 (by omega), ?_⟩
      have := Mp.at_lt k2 (d := s) (by omega); omega
    have hrl : ∀ q ∈ L, q.length = Cv.deg L := fun q hq => (hP.1 q hq).1
    obtain ⟨R, hR⟩ : ∃ R, Mp.natRows (Cv.partsN L) = R := ⟨_, rfl⟩
    rw [hR]
    unfold Cv.partsN Cv.lab at hR
    obtain ⟨n, hn0⟩ : ∃ n, n = Cv.deg L := ⟨_, rfl⟩
    rw [← hn0] at hcell0 h5 h1 hlt hrl hR
    have Hi0 := Lib.hid hi0; have Hz0 := Lib.hid hz0; have Hz1 := Lib.hid hz1; have Hz2 := Lib.hid hz2
    have Ha := Lib.hid ha; have Hc0 := Lib.hid hcell0; have Hlt := Lib.hid hlt; have Hrl := Lib.hid hrl; have HR := Lib.hid hR; have HcP := Lib.hid hcP
    have Hmk := Lib.hid (fun W => mk_rows n (by omega) W)
    clear hi0 hz0 hz1 hz2 ha hP hr0 hr0l hcell0 hlt hn0 hrl hR hcP hL
    go_enter Try.func59, Try.ntmps59
    go_wp2_with fail
    refine HcP.out.mono ?_
    rintro e w1 ⟨rfl, hb1⟩
    have Hb1 := Lib.hid hb1; clear hb1
    have c1 : w1.cell? ⟨b0, o0, none⟩ = some (.slice a0 n c0) := by rw [Hb1.out.cell hbw0]; exact Hc0.out
    go_wp2_with fail
    refine (impl_newClasses n w1 (by omega)).mono ?_
    rintro e w3 ⟨rfl, hlab, hb3⟩
    have hlt3 := hlab.lt
    have Hlab := Lib.hid hlab; have Hb3 := Lib.hid (Hb1.out.trans (hb3.mono Hb1.out.size))
    have hNw : w.heap.size ≤ w1.heap.size := Hb1.out.size
    generalize w1.heap.size = g at *
    clear hlab hb3 c1
    go_wp2
    go_loopw [5, 6, 7, 22] (fun _ _ _ iv wr => ∃ i : Nat, i ≤ L.length ∧ iv = .int .i64 i ∧ Hid (Below w.heap.size w wr) ∧ Hid (Lab wr g (Cls.mergeAll (met Cv.step1 L i 0)) n)) (fun _ _ _ iv _ => L.length - (intOf iv).toNat)
    case atStart => exact ⟨0, by omega, rfl, Hb3, Lib.hid Hlab.out⟩
    case round =>
      clear Hb3 Hlab
      obtain ⟨k, hk, rfl, hb, hun⟩ := hrel
      by_cases hltk : k < L.length
      · obtain ⟨q, hq⟩ := get_some hltk
        have hql := Hrl.out q (get_mem hq)
        have hqa := Hlt.out q (get_mem hq)
        have hnx := met_next (f := Cv.step1) hq
        rw [hql] at hnx
        have hst := fun j => met_step (f := Cv.step1) j hq
        obtain ⟨b, o, ai, ci, e0, hbw, hcell0, hrow0⟩ := Ha.out.get hq
        cases e0
        rw [hql] at hcell0
        have hcell : wr.cell? ⟨b0, o0 + k, none⟩ = some (.slice ai n ci) := by rw [hb.out.cell hbw]; exact hcell0
        have Hnx := Lib.hid hnx; have Hst := Lib.hid hst; have Hqa := Lib.hid hqa; have Hql := Lib.hid hql
        have HrowA := Lib.hid hrow0
        clear hnx hst hqa hq hql hrow0 hcell0
        have h0k : (0 : Int) ≤ (k : Int) := by omega
        have h1k : (k : Int) < (L.length : Int) := by omega
        go_wp2
        go_loopw [6, 7, 28] (fun _ _ jv wr => ∃ j : Nat, j ≤ n ∧ jv = .int .i64 j ∧ Hid (Below w.heap.size w wr) ∧ Hid (Lab wr g (Cls.mergeAll (met Cv.step1 L k j)) n)) (fun _ _ jv _ => n - (intOf jv).toNat)
        case atStart => exact ⟨0, by omega, rfl, hb, hun⟩
        case round =>
          clear hb hun
          obtain ⟨j, hj, rfl, hb, hun⟩ := hrel
          by_cases hltj : j < n
          · obtain ⟨hqj, hyn⟩ := Hqa.out j hltj
            obtain ⟨b2, o2, rfl, hbw2, hcell2⟩ := intCells_get? (HrowA.out.below hb.out) hqj
            have hm := impl_mergeClasses g n n (Cls.mergeAll (met Cv.step1 L k j)) j (Mp.at_ q j) (j : Int) ((Mp.at_ q j : Nat) : Int) rfl rfl wr hun.out hltj hyn (by omega)
            rw [show Cls.merge (Cls.mergeAll (met Cv.step1 L k j)) (j, Mp.at_ q j) = Cls.mergeAll (met Cv.step1 L k (j + 1)) by rw [Hst.out j, Cls.mergeAll_snoc]; rfl] at hm
            have Hm := Lib.hid hm
            have hgl := hun.out.lt
            generalize Mp.at_ q j = z at *
            have hj0 : (0 : Int) ≤ (j : Int) := by omega
            have hj1 : (j : Int) < (n : Int) := by omega
            clear hm hqj
            go_wp2_with fail
            refine Hm.out.mono ?_
            rintro e w4 ⟨rfl, hl4, hg4⟩
            have Hb4 := Lib.hid (Below.grown hb.out hg4 hb.out.size (fun k hk => by cases hk; exact hNw))
            have Hl4 := Lib.hid hl4
            clear hl4 hg4
            go_wp2
            go_roundw
            case rel => exact ⟨j + 1, by omega, by go_num, Hb4, Hl4⟩
            case measure => simp [intOf]; omega
          · obtain rfl : n = j := by omega
            rw [Hnx.out] at hun
            go_wp2
            go_roundw
            case rel => exact ⟨k + 1, by omega, by go_num, hb, hun⟩
            case measure => simp [intOf]; omega
      · obtain rfl : k = L.length := by omega
        rw [met_end] at hun
        have hun2 : Lab wr g (Cls.mergeAll (Cv.pairs L)) n := hun.out
        generalize Cls.mergeAll (Cv.pairs L) = f at *
        have Hun := Lib.hid hun2
        obtain ⟨wo, rfl⟩ : ∃ wo : World, wo = wr := ⟨_, rfl⟩
        have hgl := hun2.lt
        have hmk := Hmk.out wo
        have hNo : w.heap.size ≤ wo.heap.size := hb.out.size
        have hbag := Bag.start (n := n) (Nat.le_refl wo.heap.size)
        have hal := hb.out.alloc hNo (.cells (hdCells (List.replicate n ⟨none, 0, []⟩)).toArray 42)
        have hwl := Hun.out.below ((Below.refl wo.heap.size wo).alloc (Nat.le_refl _) (.cells (hdCells (List.replicate n ⟨none, 0, []⟩)).toArray 42)) hgl
        obtain ⟨G, hG⟩ : ∃ G, G = wo.heap.size := ⟨_, rfl⟩
        rw [← hG] at hmk hbag hgl hNo
        have HG := Lib.hid hG; have Hbag := Lib.hid hbag; have Hal := Lib.hid hal; have Hwl := Lib.hid hwl
        clear hun hun2 hbag hal hwl hG
        go_wp2
        clear hmk
        go_loopw [9, 10, 11, 44] (fun _ _ _ tv wr => ∃ t : Nat, t ≤ n ∧ tv = .int .i64 t ∧ Hid (Below w.heap.size w wr) ∧ Hid (Lab wr g f n) ∧ ∃ hs : List Hd, Hid (hs.map Hd.l = Mp.natRows (Cv.rowsTo f n t)) ∧ Hid (Bag wr G G hs)) (fun _ _ _ tv _ => n - (intOf tv).toNat)
        case atStart => exact ⟨0, by omega, rfl, Hal, Hwl, _, Lib.hid (by rw [Cv.rowsTo_zero]; simp [Mp.natRows]), Hbag⟩
        case round =>
          obtain ⟨t, ht, rfl, hb2, hlab2, hs, hmap, hbag⟩ := hrel
          by_cases hltt : t < n
          · obtain ⟨hcl, hll, hsp⟩ := Cv.leastOf_spec f t
            have hct := hlab2.out.cell hltt
            have hix := lib_IndexLeast (some ⟨g, 0, none⟩) n n t f wr hlab2.out.row hltt (by omega)
            have hset := Cv.rowsTo_succ f n t
            have hkn : Cv.leastOf f t < n := by omega
            have hget := Cv.rowsTo_get (c := f) (t := t) hkn
            have hrl := Cv.rowAt_len f t (Cv.leastOf f t)
            generalize Cv.leastOf f t = k at *
            generalize Cv.rowAt f t k = r at *
            have hgm : (hs.map Hd.l)[k]? = some (intsOf r) := by rw [hmap.out]; unfold Mp.natRows; rw [List.getElem?_map, hget]; rfl
            rw [List.getElem?_map] at hgm
            obtain ⟨x, hx, hxl⟩ := Option.map_eq_some_iff.1 hgm
            have hxll : x.l.length = r.length := by rw [hxl, intsOf_len]
            have hcx := hbag.out.cell hx
            have hox := hbag.out.own x (get_mem hx)
            have hfz := hbag.out.blk.frozen k
            have hpush := fun (v1 : Value) (w1 : World) (h1 : w1.ownsRow G 3 1 v1 (x.l.length + 1) (intCells x.l ++ [.int .i64 (t : Int)])) (h2 : (wr.alloc (.cells #[.int .i64 (t : Int)] 3)).grownBy w1 (Value.slice x.a x.l.length x.c).ownBlock) (h3 : v1.ownBlock = (Value.slice x.a x.l.length x.c).ownBlock ∨ v1.ownBlock = some (wr.alloc (.cells #[.int .i64 (t : Int)] 3)).heap.size) => hbag.out.push hx h1 h2 h3
            have hGG := hbag.out.blk.lt
            have hbk := hbag.out.blk
            have hGo := hbk.other hox (by decide)
            have hm1 : x.l.length + 1 ≤ maxLen := by unfold maxLen; omega
            have hm2 : (x.l.length + 1) * 8 ≤ 140737488355328 := by omega
            have hN2 : G ≤ wr.heap.size := Nat.le_of_lt hGG
            have hnx : ∀ h' : Hd, h'.l = x.l ++ [(t : Int)] → (hs.set k h').map Hd.l = Mp.natRows (Cv.rowsTo f n (t + 1)) := fun h' e => by
              rw [hset, Cv.natRows_set, ← hmap.out, List.map_set, e, hxl, intsOf_snoc]
            have hlt2 : k < hs.length := (List.getElem?_eq_some_iff.1 hx).1
            have hval : x.val = .slice x.a x.l.length x.c := rfl
            have hdst : ∀ W, Blk W G 42 (hdCells hs).toArray → W.cell? ⟨G, k, none⟩ = some (.slice x.a x.l.length x.c) := fun W h => by rw [h.cell k, ← hbk.cell k]; exact hcx
            have Hdst := Lib.hid hdst
            clear hdst
            rw [hval] at hcx hox hGo
            have Hix := Lib.hid hix; have Hpush := Lib.hid hpush; have Hnx := Lib.hid hnx; have Hox := Lib.hid hox; have Hbk := Lib.hid hbk; have Hgo := Lib.hid hGo
            have k0 : (0 : Int) ≤ (k : Int) := by omega
            have k1 : (k : Int) < (n : Int) := by omega
            have t0 : (0 : Int) ≤ (t : Int) := by omega
            have t1 : (t : Int) < (n : Int) := by omega
            clear hix hpush hnx hox hbk hGo hset hget hgm hx hxl hcl hsp hval hmap hxll
            generalize x.l.length = xl at *
            go_wp2_with fail
            refine Hix.out.mono ?_
            rintro e w4 ⟨rfl, hw4⟩
            rw [hw4]; clear hw4 w4
            go_wp2_with (at_builtin; refine append_one_new rfl (.tmp 57) (.tmp 59) 42 rfl G 3 i0 _ 8 Try.underlying42 Hi0.out Hz0.out Hz1.out Hz2.out (by rfl) _ _ _ rfl Hox.out (by rfl) _ rfl hm1 hm2 hN2 ?_; intro v1 w1 hown1 hg1 hn1; obtain ⟨a1, c1, rfl⟩ := own_len hown1; have hbk1 := (Hbk.out.alloc (.cells #[.int .i64 (t : Int)] 3)).grown hg1 (fun e => Hgo.out e.symm); have hdst := Hdst.out w1 hbk1; have hfz1 := hbk1.frozen k; have Hown1 := Lib.hid hown1; have Hg1 := Lib.hid (show (wr.alloc (.cells #[.int .i64 (t : Int)] 3)).grownBy w1 (Value.slice x.a xl x.c).ownBlock from hg1); have Hn1 := Lib.hid (show (Value.slice a1 (xl + 1) c1).ownBlock = (Value.slice x.a xl x.c).ownBlock ∨ (Value.slice a1 (xl + 1) c1).ownBlock = some (wr.alloc (.cells #[.int .i64 (t : Int)] 3)).heap.size from hn1); clear hown1 hg1 hn1 hbk1)
            go_roundw
            case rel =>
              obtain ⟨h', e1, e2, hB⟩ := Hpush.out _ w1 Hown1.out Hg1.out Hn1.out
              refine ⟨t + 1, by omega, by go_num, Lib.hid (Below.setCell (Below.grown (hb2.out.alloc hb2.out.size _) Hg1.out (by have := hb2.out.size; simp; omega) (fun q hq => Nat.le_trans hNo (Hox.out.lt q hq).1)) hNo _), Lib.hid ?_, hs.set k h', Lib.hid (Hnx.out h' e1), Lib.hid hB⟩
              exact hlab2.out.below (((Below.refl G wr).alloc hN2 _ |>.grown Hg1.out (by simp; omega) (fun q hq => (Hox.out.lt q hq).1)).setCell (Nat.le_refl G) _) hgl
            case measure => simp [intOf]; omega
          · obtain rfl : n = t := by omega
            have hlen : hs.length = n := by have := congrArg List.length hmap.out; rw [List.length_map, Mp.natRows_len] at this; unfold Cv.rowsTo at this; simpa using this
            have hD := lib_DeleteEmpty G hs wr hbag.out.blk (by omega)
            rw [hlen] at hD
            have hfin := Cv.intsOf_filter_rows f n hmap.out
            rw [HR.out] at hfin
            have Hfin := Lib.hid hfin; have HD := Lib.hid hD
            have hRl : R.length = (hs.filter Hd.some).length := by rw [← Hfin.out, List.length_map]
            have hRn : R.length ≤ n := by rw [hRl, ← hlen]; exact List.length_filter_le _ _
            have HRl := Lib.hid hRl
            clear hD hfin hlen hRl
            go_wp2_with fail
            refine HD.out.mono ?_
            rintro e w5 ⟨rfl, hg5, all, hb5, hc5⟩
            have hgr := hbag.out.grid hg5 hb5 hc5
            rw [Hfin.out] at hgr
            have hbw := Below.grown hb2.out hg5 hb2.out.size (fun k hk => by cases hk; exact hNo)
            have Hgr := Lib.hid hgr; have Hbw := Lib.hid hbw
            clear hgr hbw hg5 hb5 hc5
            go_wp2
            go_ret
            exact ⟨_, n, by rw [HRl.out]; rfl, hRn, by unfold maxLen; omega, Hgr.out.mono hNo (Nat.le_refl _), Hbw.out⟩
  · rw [decide_eq_false hP] at hcP
    rw [Cv.parts_not hP]
    have HcP := Lib.hid hcP
    clear hcP hL hP ha
    go_enter Try.func59, Try.ntmps59
    go_wp2_with fail
    refine HcP.out.mono ?_
    rintro e w1 ⟨rfl, hb1⟩
    have Hb1 := Lib.hid hb1; clear hb1
    go_wp2
    go_ret
    exact GivesRows.none Hb1.out
end Go.Proofs.Ytodgongemoabiaa
