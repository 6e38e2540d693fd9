/-
  The walk of the model's draw of gluings.
-/
import Derived.Test.YtodgongemoabiaaDoorBase
import Derived.Test.YtodgongemoabiaaDoorSlice
import Derived.Test.YtodgongemoabiaaDoorInts
import Derived.Test.YtodgongemoabiaaDoorOwn
import Derived.Test.YtodgongemoabiaaDoorAppend
import Derived.Test.YtodgongemoabiaaDoorGrid
import Derived.Test.YtodgongemoabiaaDoorGridWalk
import Derived.Test.YtodgongemoabiaaDoorGridRows
import Derived.Test.YtodgongemoabiaaDoorDraw
import Derived.Test.YtodgongemoabiaaDoorDrawGlue0
import Derived.Deep.RegionLaw
import Derived.Deep.Cut
namespace Go.Proofs.YtodgongemoabiaaDoor
open Go.RowKit

/-- Polygons that were drawn: each has a side; the cursor goes on. -/
def PolyOut (w : World) (g : Nat) (e : Ending) (w' : World) : Prop := ∃ G cG hs sv l, e = .returned (.slice (some ⟨G, 0, none⟩) hs.length cG) ∧ Polys w w.heap.size g w' sv l (.slice (some ⟨G, 0, none⟩) hs.length cG) hs ∧ 1 ≤ hs.length ∧ hs.length ≤ 13 ∧ ∀ h ∈ hs, h.l ≠ [] ∧ h.l.length ≤ 13
set_option maxRecDepth 10000 in
set_option maxHeartbeats 4000000 in
theorem l3Draw (g : Nat) (w : World) (hc : CurAt w g) :
    Calls Tryd.prog 60 #[.pointer (some ⟨g, 0, none⟩)] w (PolyOut w g) := by
  obtain ⟨i0, hi0, hz0, hz1, hz2⟩ := info_int_parts
  have Hi0 := Lib.hid hi0; have Hz0 := Lib.hid hz0; have Hz1 := Lib.hid hz1; have Hz2 := Lib.hid hz2
  clear hi0 hz0 hz1 hz2
  have hgl := hc.lt
  generalize hN : w.heap.size = N at *
  have HN := Lib.hid hN
  have hc0 : CurAt (w.alloc (.cells #[.int .i64 0, .int .i64 0, .int .i64 1, .int .i64 2] 3)) g := hc.alloc _
  have hg0 : w.grownBy (w.alloc (.cells #[.int .i64 0, .int .i64 0, .int .i64 1, .int .i64 2] 3)) (some g) := World.grownBy_alloc _ _ _
  go_enter Tryd.func60, Tryd.ntmps60
  go_wp2_with fail
  refine (l1PickInt g N 4 [0, 0, 1, 2] _ hc0 (by have h := Blk.new w 3 #[.int .i64 0, .int .i64 0, .int .i64 1, .int .i64 2]; rw [hN] at h; exact h) (by omega) (by decide) (by decide)).mono ?_
  rintro e w1 ⟨⟨pv, hpv, rfl⟩, hc1, hg1⟩
  obtain ⟨P, hP0, hP1, rfl⟩ : ∃ P : Int, 0 ≤ P ∧ P ≤ 2 ∧ pv = .int .i64 P := by
    simp only [intCells, List.map_cons, List.map_nil, List.mem_cons, List.not_mem_nil, or_false] at hpv
    rcases hpv with rfl | rfl | rfl | rfl
    · exact ⟨0, by omega, by omega, rfl⟩
    · exact ⟨0, by omega, by omega, rfl⟩
    · exact ⟨1, by omega, by omega, rfl⟩
    · exact ⟨2, by omega, by omega, rfl⟩
  have hN1 : N ≤ w1.heap.size := by have := hg1.size; simp at this; omega
  have hgw1 := Lib.hid (hg0.trans hg1); have Hc1 := Lib.hid hc1
  clear hc0 hg0 hc1 hg1 hpv
  go_wp2
  go_loopw [4, 5] (fun sv xv wr => ∃ (k : Nat) (l : List Int), xv = .int .i64 (k : Int) ∧ 1 ≤ k ∧ k ≤ 7 ∧ k ≤ l.length + 1 ∧ l.length + 2 ≤ 2 * k ∧ Hid (Sides w N g wr sv l)) (fun _ xv _ => (8 - intOf xv).toNat)
  case atStart => exact ⟨1, [], rfl, by omega, by omega, by simp, by simp, Lib.hid ⟨own_mono (own_made rfl) hN1, Tiny.nil, Hc1.out.alloc _, hgw1.out.trans (World.grownBy_alloc _ _ _)⟩⟩
  case round =>
    obtain ⟨k, l, rfl, hk1, hk7, hl1, hl2, hS⟩ := hrel
    obtain ⟨hown, hT, hcr, hgr⟩ := hS.out
    have hNr : N ≤ wr.heap.size := by have := hgr.size; rw [HN.out] at this; exact this
    have HT := Lib.hid hT; have Hcr := Lib.hid hcr; have Hgr := Lib.hid hgr; have Hown := Lib.hid hown
    clear hown hT hcr hgr hS
    go_wp2_with fail
    refine (l1Below g 5 wr Hcr.out (by omega) (by omega)).mono ?_
    rintro e w2 ⟨⟨y, rfl, hy0, hy1⟩, hc2, hg2⟩
    have hown2 := own_draw Hown.out hg2 hgl
    have Hc2 := Lib.hid hc2; have Hg2 := Lib.hid (Hgr.out.trans hg2)
    have hN2 : N ≤ w2.heap.size := by have := hg2.size; omega
    clear hc2 hg2 Hcr Hgr Hown
    by_cases hky : (k : Int) ≤ 2 + y
    · have dk : decide ((k : Int) ≤ 2 + y) = true := decide_eq_true hky
      have hk6 : k ≤ 6 := by omega
      have hq1 : l.length + 1 ≤ maxLen := by unfold maxLen; omega
      have hq2 : (l.length + 1) * 8 ≤ 140737488355328 := by omega
      obtain ⟨av, cv, rfl⟩ := own_len hown2
      have hrow : ∀ q, (Value.slice av l.length cv).ownBlock = some q → N ≤ q := fun q hq => (hown2.lt q hq).1
      have Hrow := Lib.hid hrow; have Hky := Lib.hid hky
      clear hrow hky
      go_wp2_with (at_builtin; refine append_one rfl (.tmp 24) (.tmp 26) 46 rfl N 3 i0 _ 8 Tryd.underlying46 Hi0.out Hz0.out Hz1.out Hz2.out (by rfl) _ _ _ rfl hown2 (by rfl) _ rfl hq1 hq2 hN2 ?_; intro v3 w3 hown3 hg3 _)
      have hc3 : CurAt w3 g := (Hc2.out.alloc _).above hg3 (fun q hq => by have := Hrow.out q hq; omega)
      have hgw3 : w.grownBy w3 (some g) := grown_all (Hg2.out.trans (World.grownBy_alloc _ _ _)) hg3 (fun q hq => by rw [HN.out]; exact Hrow.out q hq)
      rw [intCells_snoc] at hown3
      have Hown3 := Lib.hid hown3; have Hc3 := Lib.hid hc3; have Hgw3 := Lib.hid hgw3
      clear hown3 hc3 hgw3 hg3 hown2 Hc2 Hg2 Hrow
      go_wp2_with fail
      refine (l1Once g 4 w3 Hc3.out (by omega) (by omega)).mono ?_
      rintro e w4 ⟨⟨once, rfl⟩, hc4, hg4⟩
      have hown4 := own_draw Hown3.out hg4 hgl
      have Hown4 := Lib.hid hown4; have Hc4 := Lib.hid hc4; have Hgw4 := Lib.hid (Hgw3.out.trans hg4)
      clear hown4 hc4 hg4 Hown3 Hc3 Hgw3
      have hTk := HT.out.snoc (x := (k : Int)) (by omega) (by omega)
      have HTk := Lib.hid hTk; clear hTk
      cases once with
      | true =>
        go_wp2
        go_roundw
        case rel => exact ⟨k + 1, l ++ [(k : Int)], by go_num, by omega, by omega, by simp; omega, by simp; omega, Lib.hid ⟨by rw [List.length_append]; exact Hown4.out, HTk.out, Hc4.out, Hgw4.out⟩⟩
        case measure => simp [intOf] <;> omega
      | false =>
        go_wp2_with fail
        refine (l1Below g 2 w4 Hc4.out (by omega) (by omega)).mono ?_
        rintro e w5 ⟨⟨z, rfl, hz0, hz1⟩, hc5, hg5⟩
        have hown5 := own_draw Hown4.out hg5 hgl
        have Hc5 := Lib.hid hc5; have Hg5 := Lib.hid (Hgw4.out.trans hg5)
        have hN5 : N ≤ w5.heap.size := by have := Hg5.out.size; rw [HN.out] at this; exact this
        clear hc5 hg5 Hc4 Hgw4 Hown4
        obtain ⟨bv, dv, rfl⟩ := own_len hown5
        have hrow : ∀ q, (Value.slice bv (l.length + 1) dv).ownBlock = some q → N ≤ q := fun q hq => (hown5.lt q hq).1
        have Hrow := Lib.hid hrow
        have hq3 : l.length + 1 + 1 ≤ maxLen := by unfold maxLen; omega
        have hq4 : (l.length + 1 + 1) * 8 ≤ 140737488355328 := by omega
        clear hrow hq1 hq2
        rcases (show z = 0 ∨ z = 1 by omega) with rfl | rfl
        · clear hz0 hz1
          go_wp2_with (at_builtin; refine append_one rfl (.tmp 31) (.tmp 38) 46 rfl N 3 i0 _ 8 Tryd.underlying46 Hi0.out Hz0.out Hz1.out Hz2.out (by rfl) _ _ _ rfl hown5 (by rfl) _ rfl hq3 hq4 hN5 ?_; intro v6 w6 hown6 hg6 _)
          go_roundw
          case rel =>
            refine ⟨k + 1, (l ++ [(k : Int)]) ++ [(k : Int)], by go_num, by omega, by omega, by simp; omega, by simp; omega, Lib.hid ⟨?_, HTk.out.snoc (by omega) (by omega), (Hc5.out.alloc _).above hg6 (fun q hq => by have := Hrow.out q hq; omega), grown_all (Hg5.out.trans (World.grownBy_alloc _ _ _)) hg6 (fun q hq => by rw [HN.out]; exact Hrow.out q hq)⟩⟩
            rw [List.length_append, List.length_append, ← intCells_snoc]; simpa using hown6
          case measure => simp [intOf] <;> omega
        · clear hz0 hz1
          go_wp2_with (at_builtin; refine append_one rfl (.tmp 31) (.tmp 38) 46 rfl N 3 i0 _ 8 Tryd.underlying46 Hi0.out Hz0.out Hz1.out Hz2.out (by rfl) _ _ _ rfl hown5 (by rfl) _ rfl hq3 hq4 hN5 ?_; intro v6 w6 hown6 hg6 _)
          go_roundw
          case rel =>
            refine ⟨k + 1, (l ++ [(k : Int)]) ++ [-(k : Int)], by go_num, by omega, by omega, by simp; omega, by simp; omega, Lib.hid ⟨?_, HTk.out.snoc (by omega) (by omega), (Hc5.out.alloc _).above hg6 (fun q hq => by have := Hrow.out q hq; omega), grown_all (Hg5.out.trans (World.grownBy_alloc _ _ _)) hg6 (fun q hq => by rw [HN.out]; exact Hrow.out q hq)⟩⟩
            rw [List.length_append, List.length_append, ← intCells_snoc]; simpa using hown6
          case measure => simp [intOf] <;> omega
    · have dk : decide ((k : Int) ≤ 2 + y) = false := decide_eq_false hky
      have hl3 : 2 ≤ l.length := by omega
      have hl12 : l.length ≤ 12 := by omega
      have HS := Lib.hid (show Sides w N g w2 u4 l from ⟨hown2, HT.out, Hc2.out, Hg2.out⟩)
      clear hown2 HT Hc2 Hg2 hky hN2 hNr hk1 hk7 hl1 hl2
      go_wp2
      clear dk
      go_loopw [3, 4] (fun pv sv wr => ∃ (n : Nat) (l : List Int), pv = .int .i64 (n : Int) ∧ 1 ≤ n ∧ (n ≤ 3 ∨ n = l.length) ∧ 2 ≤ l.length ∧ l.length ≤ 13 ∧ Hid (Sides w N g wr sv l)) (fun pv sv _ => (intOf pv - (sLen sv : Int)).toNat)
      case atStart => exact ⟨(1 + P).toNat, l, by rw [Int.toNat_of_nonneg (by omega)], by omega, Or.inl (by omega), hl3, by omega, HS⟩
      case round =>
        clear hl3 hl12 HS
        obtain ⟨n, l, rfl, hn1, hn2, hl3, hl13, hS⟩ := hrel
        obtain ⟨hown, hT, hcr, hgr⟩ := hS.out
        have hNr : N ≤ wr.heap.size := by have := hgr.size; rw [HN.out] at this; exact this
        obtain ⟨av, cv, rfl⟩ := own_len hown
        by_cases hlt : l.length < n
        · have dl : decide ((l.length : Int) < (n : Int)) = true := decide_eq_true (by omega)
          have hl2 : l.length = 2 := by omega
          have hrow : ∀ q, (Value.slice av l.length cv).ownBlock = some q → N ≤ q := fun q hq => (hown.lt q hq).1
          have Hrow := Lib.hid hrow
          have HT := Lib.hid hT; have Hcr := Lib.hid hcr; have Hgr := Lib.hid hgr; have Hl2 := Lib.hid hl2
          have hq1 : l.length + 1 ≤ maxLen := by unfold maxLen; omega
          have hq2 : (l.length + 1) * 8 ≤ 140737488355328 := by omega
          have Hlt := Lib.hid hlt
          clear hrow hT hcr hgr hS hl2 hlt hn2
          go_wp2_with (at_builtin; refine append_one rfl (.tmp 44) (.tmp 45) 46 rfl N 3 i0 _ 8 Tryd.underlying46 Hi0.out Hz0.out Hz1.out Hz2.out (by rfl) _ _ _ rfl hown (by rfl) _ rfl hq1 hq2 hNr ?_; intro v3 w3 hown3 hg3 _; obtain ⟨av3, cv3, rfl⟩ := own_len hown3)
          go_roundw
          case rel =>
            refine ⟨l.length + 1, l ++ [8], by go_num, by omega, Or.inr (by simp), by simp; omega, by have := Hl2.out; simp; omega, Lib.hid ⟨?_, HT.out.snoc (by omega) (by omega), (Hcr.out.alloc _).above hg3 (fun q hq => by have := Hrow.out q hq; omega), grown_all (Hgr.out.trans (World.grownBy_alloc _ _ _)) hg3 (fun q hq => by rw [HN.out]; exact Hrow.out q hq)⟩⟩
            rw [List.length_append, ← intCells_snoc]; simpa using hown3
          case measure => have := Hlt.out; simp [intOf, sLen] <;> omega
        · have dl : decide ((l.length : Int) < (n : Int)) = false := decide_eq_false (by omega)
          have dl' : decide (l.length < n) = false := decide_eq_false (by omega)
          have hln : n ≤ l.length := by omega
          have hn13 : n ≤ 13 := by omega
          have HS2 := Lib.hid (show Sides w N g wr (.slice av l.length cv) l from ⟨hown, hT, hcr, hgr⟩)
          clear hown hT hcr hgr hS hlt hn2
          go_wp2
          clear dl dl'
          obtain ⟨i1, hi1, hy0, hy1, hy2⟩ := info_ints_parts
          have Hi1 := Lib.hid hi1; have Hy0 := Lib.hid hy0; have Hy1 := Lib.hid hy1; have Hy2 := Lib.hid hy2
          clear hi1 hy0 hy1 hy2
          go_loopw [6, 7] (fun gv iv wr => ∃ (i : Nat) (hs : List Hd), iv = .int .i64 (i : Int) ∧ i ≤ n ∧ hs.length = i ∧ Hid ((∀ h ∈ hs, h.l = []) ∧ Polys w N g wr (.slice av l.length cv) l gv hs)) (fun _ iv _ => (n - intOf iv).toNat)
          case atStart =>
            obtain ⟨h1, h2, h3, h4⟩ := HS2.out
            exact ⟨0, [], rfl, Nat.zero_le _, rfl, Lib.hid ⟨fun _ h => (by cases h), h1.alloc _, h2, h3.alloc _, h4.trans (World.grownBy_alloc _ _ _), own_mono (made_rows rfl) hNr, fun _ h => (by cases h), List.pairwise_singleton _ _⟩⟩
          case round =>
            clear HS2 hNr
            obtain ⟨i, hs, rfl, hin, hsl, hR⟩ := hrel
            obtain ⟨he, R⟩ := hR.out
            have hNr : N ≤ wr.heap.size := by have := R.gro.size; rw [HN.out] at this; exact this
            have hout := R.outer
            rw [hsl] at hout
            obtain ⟨ag, cg, rfl⟩ := own_len hout
            by_cases hlt : i < n
            · have dl : decide ((i : Int) < (n : Int)) = true := decide_eq_true (by omega)
              have dl' : decide (i < n) = true := decide_eq_true (by omega)
              have HR := Lib.hid R; have He := Lib.hid he; have Hsl := Lib.hid hsl; have Hlt := Lib.hid hlt
              have hout1 := hout.alloc (.cells #[] 3)
              have hN1 : N ≤ (wr.alloc (.cells #[] 3)).heap.size := by simp; omega
              have hK1 : (wr.alloc (.cells #[] 3)).heap.size = wr.heap.size + 1 := by simp
              have hq1 : i + 1 ≤ maxLen := by unfold maxLen; omega
              have hq2 : (i + 1) * 24 ≤ 140737488355328 := by omega
              clear R he hsl hR hlt hout
              go_wp2_with (at_builtin; refine append_litK (.slice (some ⟨wr.heap.size, 0, none⟩) 0 0) (wr.heap.size + 1) hK1 rfl (.tmp 55) (.tmp 57) 27 rfl N 46 i1 _ 24 Tryd.underlying27 Hi1.out Hy0.out Hy1.out Hy2.out (by rfl) _ _ _ rfl hout1 (by rfl) _ rfl hq1 hq2 hN1 ?_; intro v3 w3 hown3 hg3)
              go_roundw
              case rel =>
                refine ⟨i + 1, hs ++ [⟨some ⟨wr.heap.size, 0, none⟩, 0, []⟩], by go_num, by have := Hlt.out; omega, by rw [List.length_append, Hsl.out]; rfl, Lib.hid ⟨fun h hh => ?_, HR.out.push HN.out hgl hg3 (by rw [Hsl.out]; exact hown3)⟩⟩
                rcases List.mem_append.1 hh with hh | hh
                · exact He.out h hh
                · rw [List.mem_singleton.1 hh]
              case measure => have := Hlt.out; simp [intOf] <;> omega
            · have dl : decide ((i : Int) < (n : Int)) = false := decide_eq_false (by omega)
              have dl' : decide (i < n) = false := decide_eq_false (by omega)
              have hie : i = n := by omega
              subst hie
              have HR := Lib.hid R; have Hsl := Lib.hid hsl
              obtain ⟨B, cB, hfB, _, _⟩ := own_form R.sides (by omega)
              injection hfB with hg1 hg2 hg3
              subst hg1; subst hg3
              obtain ⟨G, cG, hform, hGc, hGm⟩ := own_form hout (by omega)
              injection hform with hf1 hf2 hf3
              subst hf1; subst hf3
              have hcells : ∀ h ∈ hs, h.l.length ≤ 0 := fun h hh => by rw [he h hh]; simp
              have Hce := Lib.hid hcells
              clear R he hsl hR hlt hout hin hcells
              go_wp2
              clear dl dl'
              go_loopw [8] (fun kv wr => ∃ (k : Nat) (hs : List Hd), kv = .int .i64 (k : Int) ∧ k ≤ l.length ∧ hs.length = i ∧ Hid ((∀ q h, q < k → hs[q]? = some h → h.l ≠ []) ∧ (∀ h ∈ hs, h.l.length ≤ k) ∧ Polys w N g wr (.slice (some ⟨B, 0, none⟩) l.length cv) l (.slice (some ⟨G, 0, none⟩) i cg) hs)) (fun kv _ => (l.length - intOf kv).toNat)
              case atStart => exact ⟨0, hs, rfl, Nat.zero_le _, Hsl.out, Lib.hid ⟨fun q _ h => by omega, Hce.out, HR.out⟩⟩
              case round =>
                clear Hce HR Hsl hNr
                obtain ⟨k, hs, rfl, hkl, hsl, hR⟩ := hrel
                obtain ⟨hne, hle, R⟩ := hR.out
                have HR := Lib.hid R; have Hsl := Lib.hid hsl; have Hne := Lib.hid hne; have Hle := Lib.hid hle
                clear R hR hne hle hsl
                by_cases hlt : k < l.length
                · have dl : decide ((k : Int) < (l.length : Int)) = true := decide_eq_true (by omega)
                  have dl' : decide (k < l.length) = true := decide_eq_true hlt
                  go_wp2_with fail
                  refine (l1Below g (i : Int) wr HR.out.cur (by omega) (by omega)).mono ?_
                  rintro e w2 ⟨⟨x, rfl, hx0, hx1⟩, hc2, hg2⟩
                  have HR2 := Lib.hid (HR.out.draw hgl hc2 hg2)
                  clear HR hc2 hg2
                  by_cases hki : k < i
                  · have dk : decide ((k : Int) < (i : Int)) = true := decide_eq_true (by omega)
                    have dk' : decide (k < i) = true := decide_eq_true hki
                    obtain ⟨h, hp⟩ := get_some (l := hs) (i := k) (by have := Hsl.out; omega)
                    have hcell := HR2.out.cell Hsl.out hp
                    obtain ⟨hown, hT, b, hb⟩ := HR2.out.inner h (get_mem hp)
                    obtain ⟨ha, hcap, hr⟩ := h
                    simp only at hb hown hcell hT
                    subst hb
                    have hp0 : (0 : Int) ≤ (k : Int) := by omega
                    have hp1 : (k : Int) < (i : Int) := by omega
                    have hrk : hr.length ≤ k := by have := Hle.out _ (get_mem hp); simpa using this
                    have hr9 : hr.length ≤ 13 := by omega
                    have Hp := Lib.hid hp; have HT := Lib.hid hT
                    clear hp hown hT
                    go_wp2_with fail
                    refine (l1Below g ((hr.length : Int) + 1) w2 HR2.out.cur (by omega) (by omega)).mono ?_
                    rintro e w3 ⟨⟨m0, rfl, hm0, hm1⟩, hc3, hg3⟩
                    obtain ⟨m, rfl⟩ : ∃ m : Nat, m0 = (m : Int) := ⟨m0.toNat, by omega⟩
                    have hml : m ≤ hr.length := by omega
                    have HR3 := Lib.hid (HR2.out.draw hgl hc3 hg3)
                    have hown3 := (HR3.out.inner _ (get_mem Hp.out)).1
                    simp only [Hd.val] at hown3
                    obtain ⟨hc0, hcm⟩ := own_cap hown3
                    have hcell3 := HR3.out.cell Hsl.out Hp.out
                    simp only at hcell3
                    have hmc : m ≤ hcap := by omega
                    have hbase : w3.heap.size ≤ (w3.alloc (.cells #[] 3)).heap.size := by simp
                    have Hmade := Lib.hid (own_made (w := w3) rfl)
                    have Hdl : Hid ((intCells (hr.drop m)).length = hr.length - m) := Lib.hid (by rw [intCells_len, List.length_drop])
                    have hq1 : 0 + (hr.length - m) ≤ maxLen := by unfold maxLen; omega
                    have hq2 : (0 + (hr.length - m)) * 8 ≤ 140737488355328 := by omega
                    have hrow3 := own_rowat hown3
                    have hcell4 : (w3.alloc (.cells #[] 3)).cell? ⟨G, k, none⟩ = some (.slice (some ⟨b, 0, none⟩) hr.length hcap) := by
                      rw [((Below.refl w3.heap.size w3).alloc (Nat.le_refl _) (.cells #[] 3)).cell (p := ⟨G, k, none⟩) (HR3.out.outer.lt G rfl).2]; exact hcell3
                    obtain ⟨A, hA⟩ : ∃ A, (if hcap = m then some (⟨b, 0, none⟩ : Addr) else some ⟨b, m, none⟩) = A := ⟨_, rfl⟩
                    have Hdrop : Hid (RowAt (w3.alloc (.cells #[] 3)) A (intCells (hr.drop m))) := Lib.hid (by
                      rw [← hA]
                      split
                      · rename_i e; exact Or.inl (by rw [List.drop_eq_nil_of_le (by omega)]; rfl)
                      · exact row_dropped (hrow3.below ((Below.refl _ _).alloc (Nat.le_refl _) _)))
                    clear HR2 hc3 hg3 hcell hown3 hm0 hm1 hrow3
                    go_wp2_with (at_builtin; refine append_row rfl (.tmp 80) (.tmp 86) 46 rfl w3.heap.size 3 i0 _ 8 Tryd.underlying46 Hi0.out Hz0.out Hz1.out Hz2.out (by rfl) _ 0 (intCells []) rfl Hmade.out _ (hr.length - m) _ (intCells (hr.drop m)) rfl Hdrop.out Hdl.out (intCells_one _) hq1 hq2 hbase ?_; intro v4 w4 hown4 hg4; obtain ⟨av4, cv4, rfl⟩ := own_len hown4)
                    have HR4 := Lib.hid (HR3.out.aside HN.out rfl hg4)
                    have hNw3 : N ≤ w3.heap.size := by have := HR3.out.gro.size; have := HN.out; omega
                    rw [Nat.zero_add, show intCells [] ++ intCells (hr.drop m) = intCells (hr.drop m) from rfl] at hown4
                    have hNw4 : N ≤ w4.heap.size := by have := HR4.out.gro.size; have := HN.out; omega
                    have hcell5 := HR4.out.cell Hsl.out Hp.out
                    simp only at hcell5
                    have hside5 : w4.cell? ⟨B, k, none⟩ = some (.int .i64 (l[k]'hlt)) := own_cell HR4.out.sides hlt rfl
                    have hcell6 : ∀ o : Obj, (w4.alloc o).cell? ⟨G, k, none⟩ = some (.slice (some ⟨b, 0, none⟩) hr.length hcap) := fun o => by
                      rw [((Below.refl w4.heap.size w4).alloc (Nat.le_refl _) o).cell (p := ⟨G, k, none⟩) (HR4.out.outer.lt G rfl).2]; exact hcell5
                    have hk0 : (0 : Int) ≤ (k : Int) := by omega
                    have hk1 : (k : Int) < (l.length : Int) := by omega
                    have hX9 := HR4.out.tiny (l[k]'hlt) (List.getElem_mem hlt)
                    have htake := own_take (HR4.out.inner _ (get_mem Hp.out)).1 hml
                    rw [intCells_take] at htake
                    have Htake : Hid ((w4.alloc (.cells #[.int .i64 (l[k]'hlt)] 3)).drew.ownsRow N 3 1 (.slice (some ⟨b, 0, none⟩) m hcap) m (intCells (hr.take m))) := Lib.hid (own_drewN (htake.alloc _) 1)
                    have HRX : Hid (RowAt (w4.alloc (.cells #[.int .i64 (l[k]'hlt)] 3)).drew (some ⟨w4.heap.size, 0, none⟩) (intCells [l[k]'hlt])) := Lib.hid ((Blk.new w4 3 #[.int .i64 (l[k]'hlt)]).drew.row)
                    have Hrest : Hid ((w4.alloc (.cells #[.int .i64 (l[k]'hlt)] 3)).drew.ownsRow w3.heap.size 3 1 (.slice av4 (hr.length - m) cv4) (hr.length - m) (intCells (hr.drop m))) := Lib.hid (own_drewN (hown4.alloc _) 1)
                    have hbs : b < w3.heap.size := ((HR3.out.inner _ (get_mem Hp.out)).1.lt b rfl).2
                    have Hrest2 : Hid (∀ w5, (w4.alloc (.cells #[.int .i64 (l[k]'hlt)] 3)).drew.grownBy w5 (Value.slice (some ⟨b, 0, none⟩) m hcap).ownBlock → RowAt w5 av4 (intCells (hr.drop m)) ∧ N ≤ w5.heap.size) := Lib.hid (fun w5 hg => by
                      have h5 := own_grown2 Hrest.out hg (fun k hk e => by have := (Hrest.out.lt k hk).1; have := own_block e; omega)
                      obtain ⟨a', c', e', hr'⟩ := own_row h5 (by rw [intCells_len, List.length_drop])
                      cases e'
                      refine ⟨hr', ?_⟩
                      have := hg.size
                      simp at this
                      omega)
                    have hbs4 : b < w4.heap.size := ((HR4.out.inner _ (get_mem Hp.out)).1.lt b rfl).2
                    have hGc : ∀ w6, w4.grownBy w6 (some b) → w6.cell? ⟨G, k, none⟩ = some (.slice (some ⟨b, 0, none⟩) hr.length hcap) ∧ w6.frozen? ⟨G, k, none⟩ = false := fun w6 hG => by
                      have ho6 := kept_type HR4.out.outer (HR4.out.inner _ (get_mem Hp.out)).1 (by decide) hG
                      rw [Hsl.out] at ho6
                      refine ⟨?_, ho6.frozenAt _⟩
                      have hpl := (List.getElem?_eq_some_iff.1 Hp.out)
                      obtain ⟨h1, h2⟩ := hpl
                      rw [ho6.cellAt k (by have := Hsl.out; omega), hdCells_get h1, h2]; rfl
                    have HGc := Lib.hid hGc
                    have hins := fun (v6 : Value) (w6 : World) (hG : w4.grownBy w6 (some b)) (ho : w6.ownsRow N 3 1 v6 (hr.length + 1) (intCells (hr.take m ++ [l[k]'hlt] ++ hr.drop m))) (hb6 : v6.ownBlock = some b ∨ ∃ k, v6.ownBlock = some k ∧ w4.heap.size ≤ k) => (show ∃ b6 c6, v6 = .slice (some ⟨b6, 0, none⟩) (hr.length + 1) c6 ∧ Polys w N g (w6.setCell ⟨G, k, none⟩ v6) (.slice (some ⟨B, 0, none⟩) l.length cv) l (.slice (some ⟨G, 0, none⟩) i cg) (hs.set k ⟨some ⟨b6, 0, none⟩, c6, hr.take m ++ [l[k]'hlt] ++ hr.drop m⟩) by
                      obtain ⟨b6, c6, rfl, _, _⟩ := own_form ho (by omega)
                      refine ⟨b6, c6, rfl, ?_⟩
                      have h4 := HR4.out
                      have e := Hsl.out
                      rw [← e] at h4 ⊢
                      refine h4.insert HN.out hgl Hp.out hG ho ?_ ?_ ?_
                      · simp; omega
                      · intro y hy
                        rcases List.mem_append.1 hy with hy | hy
                        · rcases List.mem_append.1 hy with hy | hy
                          · exact HT.out y (List.mem_of_mem_take hy)
                          · rw [List.mem_singleton.1 hy]; exact hX9
                        · exact HT.out y (List.mem_of_mem_drop hy)
                      · rcases hb6 with hb6 | ⟨k6, hk6, hk7⟩
                        · exact Or.inl (own_block hb6).symm
                        · exact Or.inr (by have := own_block hk6; omega))
                    have Hins := Lib.hid hins
                    have hm3 : m + 1 ≤ maxLen := by unfold maxLen; omega
                    have hm4 : (m + 1) * 8 ≤ 140737488355328 := by omega
                    have hm5 : m + 1 + (hr.length - m) ≤ maxLen := by unfold maxLen; omega
                    have hm6 : (m + 1 + (hr.length - m)) * 8 ≤ 140737488355328 := by omega
                    have hNd : N ≤ (w4.alloc (.cells #[.int .i64 (l[k]'hlt)] 3)).drew.heap.size := by simp; omega
                    have hfin := fun b6 c6 => (show (∀ q h, q < k + 1 → (hs.set k ⟨some ⟨b6, 0, none⟩, c6, hr.take m ++ [l[k]'hlt] ++ hr.drop m⟩)[q]? = some h → h.l ≠ []) ∧ (∀ h ∈ hs.set k ⟨some ⟨b6, 0, none⟩, c6, hr.take m ++ [l[k]'hlt] ++ hr.drop m⟩, h.l.length ≤ k + 1) from by
                      refine ⟨fun q h hq hh => ?_, fun h hh => ?_⟩
                      · rw [List.getElem?_set] at hh
                        split at hh
                        · split at hh
                          · cases hh; simp
                          · cases hh
                        · rcases Nat.lt_or_ge q k with h1 | h1
                          · exact Hne.out q h h1 hh
                          · exfalso
                            have : q < hs.length := (List.getElem?_eq_some_iff.1 hh).1
                            have := Hsl.out
                            omega
                      · rcases List.mem_or_eq_of_mem_set hh with hh | rfl
                        · have := Hle.out h hh; omega
                        · simp; omega)
                    have Hfin := Lib.hid hfin
                    have hnext := fun (v5 : Value) (w5 : World) (v6 : Value) (w6 : World) (hg5 : (w4.alloc (.cells #[.int .i64 (l[k]'hlt)] 3)).drew.grownBy w5 (Value.slice (some ⟨b, 0, none⟩) m hcap).ownBlock) (hk5 : v5.ownBlock = (Value.slice (some ⟨b, 0, none⟩) m hcap).ownBlock ∨ v5.ownBlock = some (w4.alloc (.cells #[.int .i64 (l[k]'hlt)] 3)).drew.heap.size)
                      (ho6 : w6.ownsRow N 3 1 v6 (m + 1 + (hr.length - m)) (intCells (hr.take m) ++ intCells [l[k]'hlt] ++ intCells (hr.drop m))) (hg6 : w5.grownBy w6 v5.ownBlock) (hk6 : v6.ownBlock = v5.ownBlock ∨ v6.ownBlock = some w5.heap.size) =>
                      (show w6.cell? ⟨G, k, none⟩ = some (.slice (some ⟨b, 0, none⟩) hr.length hcap) ∧ w6.frozen? ⟨G, k, none⟩ = false ∧ ∃ b6 c6, v6 = .slice (some ⟨b6, 0, none⟩) (hr.length + 1) c6 ∧ Polys w N g (w6.setCell ⟨G, k, none⟩ v6) (.slice (some ⟨B, 0, none⟩) l.length cv) l (.slice (some ⟨G, 0, none⟩) i cg) (hs.set k ⟨some ⟨b6, 0, none⟩, c6, hr.take m ++ [l[k]'hlt] ++ hr.drop m⟩) by
                      have hsz5 : w4.heap.size ≤ w5.heap.size := by have := hg5.size; simp at this; omega
                      have h6 : ∀ q, v5.ownBlock = some q → q = b ∨ w4.heap.size ≤ q := fun q hq => by
                        rcases hk5 with e | e
                        · rw [e] at hq; exact Or.inl (own_block hq)
                        · rw [e] at hq; right; have := Option.some.inj hq; simp at this; omega
                      have hG := insert_grown hg5 (fun q hq => own_block hq) hg6 h6
                      obtain ⟨hc6, hf6⟩ := HGc.out w6 hG
                      refine ⟨hc6, hf6, Hins.out v6 w6 hG ?_ ?_⟩
                      · rw [show m + 1 + (hr.length - m) = hr.length + 1 from by omega] at ho6
                        rw [show intCells (hr.take m ++ [l[k]'hlt] ++ hr.drop m) = intCells (hr.take m) ++ intCells [l[k]'hlt] ++ intCells (hr.drop m) from by simp [intCells]]
                        exact ho6
                      · rcases hk6 with e | e
                        · cases hq : v5.ownBlock with
                          | none =>
                            exfalso
                            obtain ⟨g9, c9, e9, _, _⟩ := own_form ho6 (by omega)
                            rw [e9, hq] at e; cases e
                          | some q =>
                            rcases h6 q hq with h | h
                            · left; rw [e, hq, h]
                            · exact Or.inr ⟨q, by rw [e, hq], h⟩
                        · exact Or.inr ⟨_, e, hsz5⟩)
                    have Hnext := Lib.hid hnext
                    generalize hX : l[k]'hlt = X at *
                    clear hX hnext hown4 htake hGc hins hfin hg4 hcell3 hcell4 hA
                    go_wp2
                    go_region_law (first
                      | (refine step_append_rowN rfl (.tmp 95) (.tmp 100) 46 rfl N 3 i0 _ 8 Tryd.underlying46 Hi0.out Hz0.out Hz1.out Hz2.out (by rfl) _ m _ (by rfl) Htake.out _ 1 _ (intCells [X]) (by rfl) HRX.out (by rfl) (intCells_one _) hm3 hm4 hNd ?_; intro v5 w5 hown5 hg5 hk5; obtain ⟨hr5, hN5⟩ := Hrest2.out w5 hg5; obtain ⟨av5, cv5, rfl⟩ := own_len hown5)
                      | (refine step_append_rowN rfl (.tmp 101) (.tmp 102) 46 rfl N 3 i0 _ 8 Tryd.underlying46 Hi0.out Hz0.out Hz1.out Hz2.out (by rfl) _ (m + 1) _ (by rfl) hown5 _ (hr.length - m) _ (intCells (hr.drop m)) (by rfl) hr5 (by rw [intCells_len, List.length_drop]) (intCells_one _) hm5 hm6 hN5 ?_; intro v6 w6 hown6 hg6 hk6; obtain ⟨hc6, hf6, b6, c6, rfl, hP6⟩ := Hnext.out _ w5 v6 w6 hg5 hk5 hown6 hg6 hk6; have HP6 := Lib.hid hP6; clear hown5 hg5 hk5 hr5 hown6 hg6 hk6 hP6))
                    all_goals
                      go_wp2
                      go_roundw
                      case rel => exact ⟨k + 1, _, by go_num, by omega, by rw [List.length_set]; exact Hsl.out, Lib.hid ⟨(Hfin.out b6 c6).1, (Hfin.out b6 c6).2, HP6.out⟩⟩
                      case measure => simp [intOf] <;> omega
                  · have dk : decide ((k : Int) < (i : Int)) = false := decide_eq_false (by omega)
                    have dk' : decide (k < i) = false := decide_eq_false hki
                    obtain ⟨p, rfl⟩ : ∃ p : Nat, x = (p : Int) := ⟨x.toNat, by omega⟩
                    have hpi : p < i := by omega
                    obtain ⟨h, hp⟩ := get_some (l := hs) (i := p) (by have := Hsl.out; omega)
                    have hcell := HR2.out.cell Hsl.out hp
                    obtain ⟨hown, hT, b, hb⟩ := HR2.out.inner h (get_mem hp)
                    obtain ⟨ha, hcap, hr⟩ := h
                    simp only at hb hown hcell hT
                    subst hb
                    have hp0 : (0 : Int) ≤ (p : Int) := by omega
                    have hp1 : (p : Int) < (i : Int) := by omega
                    have hrk : hr.length ≤ k := by have := Hle.out _ (get_mem hp); simpa using this
                    have hr9 : hr.length ≤ 13 := by omega
                    have Hp := Lib.hid hp; have HT := Lib.hid hT
                    clear hp hown hT
                    go_wp2_with fail
                    refine (l1Below g ((hr.length : Int) + 1) w2 HR2.out.cur (by omega) (by omega)).mono ?_
                    rintro e w3 ⟨⟨m0, rfl, hm0, hm1⟩, hc3, hg3⟩
                    obtain ⟨m, rfl⟩ : ∃ m : Nat, m0 = (m : Int) := ⟨m0.toNat, by omega⟩
                    have hml : m ≤ hr.length := by omega
                    have HR3 := Lib.hid (HR2.out.draw hgl hc3 hg3)
                    have hown3 := (HR3.out.inner _ (get_mem Hp.out)).1
                    simp only [Hd.val] at hown3
                    obtain ⟨hc0, hcm⟩ := own_cap hown3
                    have hcell3 := HR3.out.cell Hsl.out Hp.out
                    simp only at hcell3
                    have hmc : m ≤ hcap := by omega
                    have hbase : w3.heap.size ≤ (w3.alloc (.cells #[] 3)).heap.size := by simp
                    have Hmade := Lib.hid (own_made (w := w3) rfl)
                    have Hdl : Hid ((intCells (hr.drop m)).length = hr.length - m) := Lib.hid (by rw [intCells_len, List.length_drop])
                    have hq1 : 0 + (hr.length - m) ≤ maxLen := by unfold maxLen; omega
                    have hq2 : (0 + (hr.length - m)) * 8 ≤ 140737488355328 := by omega
                    have hrow3 := own_rowat hown3
                    have hcell4 : (w3.alloc (.cells #[] 3)).cell? ⟨G, p, none⟩ = some (.slice (some ⟨b, 0, none⟩) hr.length hcap) := by
                      rw [((Below.refl w3.heap.size w3).alloc (Nat.le_refl _) (.cells #[] 3)).cell (p := ⟨G, p, none⟩) (HR3.out.outer.lt G rfl).2]; exact hcell3
                    obtain ⟨A, hA⟩ : ∃ A, (if hcap = m then some (⟨b, 0, none⟩ : Addr) else some ⟨b, m, none⟩) = A := ⟨_, rfl⟩
                    have Hdrop : Hid (RowAt (w3.alloc (.cells #[] 3)) A (intCells (hr.drop m))) := Lib.hid (by
                      rw [← hA]
                      split
                      · rename_i e; exact Or.inl (by rw [List.drop_eq_nil_of_le (by omega)]; rfl)
                      · exact row_dropped (hrow3.below ((Below.refl _ _).alloc (Nat.le_refl _) _)))
                    clear HR2 hc3 hg3 hcell hown3 hm0 hm1 hrow3
                    go_wp2_with (at_builtin; refine append_row rfl (.tmp 80) (.tmp 86) 46 rfl w3.heap.size 3 i0 _ 8 Tryd.underlying46 Hi0.out Hz0.out Hz1.out Hz2.out (by rfl) _ 0 (intCells []) rfl Hmade.out _ (hr.length - m) _ (intCells (hr.drop m)) rfl Hdrop.out Hdl.out (intCells_one _) hq1 hq2 hbase ?_; intro v4 w4 hown4 hg4; obtain ⟨av4, cv4, rfl⟩ := own_len hown4)
                    have HR4 := Lib.hid (HR3.out.aside HN.out rfl hg4)
                    have hNw3 : N ≤ w3.heap.size := by have := HR3.out.gro.size; have := HN.out; omega
                    rw [Nat.zero_add, show intCells [] ++ intCells (hr.drop m) = intCells (hr.drop m) from rfl] at hown4
                    have hNw4 : N ≤ w4.heap.size := by have := HR4.out.gro.size; have := HN.out; omega
                    have hcell5 := HR4.out.cell Hsl.out Hp.out
                    simp only at hcell5
                    have hside5 : w4.cell? ⟨B, k, none⟩ = some (.int .i64 (l[k]'hlt)) := own_cell HR4.out.sides hlt rfl
                    have hcell6 : ∀ o : Obj, (w4.alloc o).cell? ⟨G, p, none⟩ = some (.slice (some ⟨b, 0, none⟩) hr.length hcap) := fun o => by
                      rw [((Below.refl w4.heap.size w4).alloc (Nat.le_refl _) o).cell (p := ⟨G, p, none⟩) (HR4.out.outer.lt G rfl).2]; exact hcell5
                    have hk0 : (0 : Int) ≤ (k : Int) := by omega
                    have hk1 : (k : Int) < (l.length : Int) := by omega
                    have hX9 := HR4.out.tiny (l[k]'hlt) (List.getElem_mem hlt)
                    have htake := own_take (HR4.out.inner _ (get_mem Hp.out)).1 hml
                    rw [intCells_take] at htake
                    have Htake : Hid ((w4.alloc (.cells #[.int .i64 (l[k]'hlt)] 3)).drew.ownsRow N 3 1 (.slice (some ⟨b, 0, none⟩) m hcap) m (intCells (hr.take m))) := Lib.hid (own_drewN (htake.alloc _) 1)
                    have HRX : Hid (RowAt (w4.alloc (.cells #[.int .i64 (l[k]'hlt)] 3)).drew (some ⟨w4.heap.size, 0, none⟩) (intCells [l[k]'hlt])) := Lib.hid ((Blk.new w4 3 #[.int .i64 (l[k]'hlt)]).drew.row)
                    have Hrest : Hid ((w4.alloc (.cells #[.int .i64 (l[k]'hlt)] 3)).drew.ownsRow w3.heap.size 3 1 (.slice av4 (hr.length - m) cv4) (hr.length - m) (intCells (hr.drop m))) := Lib.hid (own_drewN (hown4.alloc _) 1)
                    have hbs : b < w3.heap.size := ((HR3.out.inner _ (get_mem Hp.out)).1.lt b rfl).2
                    have Hrest2 : Hid (∀ w5, (w4.alloc (.cells #[.int .i64 (l[k]'hlt)] 3)).drew.grownBy w5 (Value.slice (some ⟨b, 0, none⟩) m hcap).ownBlock → RowAt w5 av4 (intCells (hr.drop m)) ∧ N ≤ w5.heap.size) := Lib.hid (fun w5 hg => by
                      have h5 := own_grown2 Hrest.out hg (fun k hk e => by have := (Hrest.out.lt k hk).1; have := own_block e; omega)
                      obtain ⟨a', c', e', hr'⟩ := own_row h5 (by rw [intCells_len, List.length_drop])
                      cases e'
                      refine ⟨hr', ?_⟩
                      have := hg.size
                      simp at this
                      omega)
                    have hbs4 : b < w4.heap.size := ((HR4.out.inner _ (get_mem Hp.out)).1.lt b rfl).2
                    have hGc : ∀ w6, w4.grownBy w6 (some b) → w6.cell? ⟨G, p, none⟩ = some (.slice (some ⟨b, 0, none⟩) hr.length hcap) ∧ w6.frozen? ⟨G, p, none⟩ = false := fun w6 hG => by
                      have ho6 := kept_type HR4.out.outer (HR4.out.inner _ (get_mem Hp.out)).1 (by decide) hG
                      rw [Hsl.out] at ho6
                      refine ⟨?_, ho6.frozenAt _⟩
                      have hpl := (List.getElem?_eq_some_iff.1 Hp.out)
                      obtain ⟨h1, h2⟩ := hpl
                      rw [ho6.cellAt p (by have := Hsl.out; omega), hdCells_get h1, h2]; rfl
                    have HGc := Lib.hid hGc
                    have hins := fun (v6 : Value) (w6 : World) (hG : w4.grownBy w6 (some b)) (ho : w6.ownsRow N 3 1 v6 (hr.length + 1) (intCells (hr.take m ++ [l[k]'hlt] ++ hr.drop m))) (hb6 : v6.ownBlock = some b ∨ ∃ k, v6.ownBlock = some k ∧ w4.heap.size ≤ k) => (show ∃ b6 c6, v6 = .slice (some ⟨b6, 0, none⟩) (hr.length + 1) c6 ∧ Polys w N g (w6.setCell ⟨G, p, none⟩ v6) (.slice (some ⟨B, 0, none⟩) l.length cv) l (.slice (some ⟨G, 0, none⟩) i cg) (hs.set p ⟨some ⟨b6, 0, none⟩, c6, hr.take m ++ [l[k]'hlt] ++ hr.drop m⟩) by
                      obtain ⟨b6, c6, rfl, _, _⟩ := own_form ho (by omega)
                      refine ⟨b6, c6, rfl, ?_⟩
                      have h4 := HR4.out
                      have e := Hsl.out
                      rw [← e] at h4 ⊢
                      refine h4.insert HN.out hgl Hp.out hG ho ?_ ?_ ?_
                      · simp; omega
                      · intro y hy
                        rcases List.mem_append.1 hy with hy | hy
                        · rcases List.mem_append.1 hy with hy | hy
                          · exact HT.out y (List.mem_of_mem_take hy)
                          · rw [List.mem_singleton.1 hy]; exact hX9
                        · exact HT.out y (List.mem_of_mem_drop hy)
                      · rcases hb6 with hb6 | ⟨k6, hk6, hk7⟩
                        · exact Or.inl (own_block hb6).symm
                        · exact Or.inr (by have := own_block hk6; omega))
                    have Hins := Lib.hid hins
                    have hm3 : m + 1 ≤ maxLen := by unfold maxLen; omega
                    have hm4 : (m + 1) * 8 ≤ 140737488355328 := by omega
                    have hm5 : m + 1 + (hr.length - m) ≤ maxLen := by unfold maxLen; omega
                    have hm6 : (m + 1 + (hr.length - m)) * 8 ≤ 140737488355328 := by omega
                    have hNd : N ≤ (w4.alloc (.cells #[.int .i64 (l[k]'hlt)] 3)).drew.heap.size := by simp; omega
                    have hfin := fun b6 c6 => (show (∀ q h, q < k + 1 → (hs.set p ⟨some ⟨b6, 0, none⟩, c6, hr.take m ++ [l[k]'hlt] ++ hr.drop m⟩)[q]? = some h → h.l ≠ []) ∧ (∀ h ∈ hs.set p ⟨some ⟨b6, 0, none⟩, c6, hr.take m ++ [l[k]'hlt] ++ hr.drop m⟩, h.l.length ≤ k + 1) from by
                      refine ⟨fun q h hq hh => ?_, fun h hh => ?_⟩
                      · rw [List.getElem?_set] at hh
                        split at hh
                        · split at hh
                          · cases hh; simp
                          · cases hh
                        · rcases Nat.lt_or_ge q k with h1 | h1
                          · exact Hne.out q h h1 hh
                          · exfalso
                            have : q < hs.length := (List.getElem?_eq_some_iff.1 hh).1
                            have := Hsl.out
                            omega
                      · rcases List.mem_or_eq_of_mem_set hh with hh | rfl
                        · have := Hle.out h hh; omega
                        · simp; omega)
                    have Hfin := Lib.hid hfin
                    have hnext := fun (v5 : Value) (w5 : World) (v6 : Value) (w6 : World) (hg5 : (w4.alloc (.cells #[.int .i64 (l[k]'hlt)] 3)).drew.grownBy w5 (Value.slice (some ⟨b, 0, none⟩) m hcap).ownBlock) (hk5 : v5.ownBlock = (Value.slice (some ⟨b, 0, none⟩) m hcap).ownBlock ∨ v5.ownBlock = some (w4.alloc (.cells #[.int .i64 (l[k]'hlt)] 3)).drew.heap.size)
                      (ho6 : w6.ownsRow N 3 1 v6 (m + 1 + (hr.length - m)) (intCells (hr.take m) ++ intCells [l[k]'hlt] ++ intCells (hr.drop m))) (hg6 : w5.grownBy w6 v5.ownBlock) (hk6 : v6.ownBlock = v5.ownBlock ∨ v6.ownBlock = some w5.heap.size) =>
                      (show w6.cell? ⟨G, p, none⟩ = some (.slice (some ⟨b, 0, none⟩) hr.length hcap) ∧ w6.frozen? ⟨G, p, none⟩ = false ∧ ∃ b6 c6, v6 = .slice (some ⟨b6, 0, none⟩) (hr.length + 1) c6 ∧ Polys w N g (w6.setCell ⟨G, p, none⟩ v6) (.slice (some ⟨B, 0, none⟩) l.length cv) l (.slice (some ⟨G, 0, none⟩) i cg) (hs.set p ⟨some ⟨b6, 0, none⟩, c6, hr.take m ++ [l[k]'hlt] ++ hr.drop m⟩) by
                      have hsz5 : w4.heap.size ≤ w5.heap.size := by have := hg5.size; simp at this; omega
                      have h6 : ∀ q, v5.ownBlock = some q → q = b ∨ w4.heap.size ≤ q := fun q hq => by
                        rcases hk5 with e | e
                        · rw [e] at hq; exact Or.inl (own_block hq)
                        · rw [e] at hq; right; have := Option.some.inj hq; simp at this; omega
                      have hG := insert_grown hg5 (fun q hq => own_block hq) hg6 h6
                      obtain ⟨hc6, hf6⟩ := HGc.out w6 hG
                      refine ⟨hc6, hf6, Hins.out v6 w6 hG ?_ ?_⟩
                      · rw [show m + 1 + (hr.length - m) = hr.length + 1 from by omega] at ho6
                        rw [show intCells (hr.take m ++ [l[k]'hlt] ++ hr.drop m) = intCells (hr.take m) ++ intCells [l[k]'hlt] ++ intCells (hr.drop m) from by simp [intCells]]
                        exact ho6
                      · rcases hk6 with e | e
                        · cases hq : v5.ownBlock with
                          | none =>
                            exfalso
                            obtain ⟨g9, c9, e9, _, _⟩ := own_form ho6 (by omega)
                            rw [e9, hq] at e; cases e
                          | some q =>
                            rcases h6 q hq with h | h
                            · left; rw [e, hq, h]
                            · exact Or.inr ⟨q, by rw [e, hq], h⟩
                        · exact Or.inr ⟨_, e, hsz5⟩)
                    have Hnext := Lib.hid hnext
                    generalize hX : l[k]'hlt = X at *
                    clear hX hnext hown4 htake hGc hins hfin hg4 hcell3 hcell4 hA
                    go_wp2
                    go_region_law (first
                      | (refine step_append_rowN rfl (.tmp 95) (.tmp 100) 46 rfl N 3 i0 _ 8 Tryd.underlying46 Hi0.out Hz0.out Hz1.out Hz2.out (by rfl) _ m _ (by rfl) Htake.out _ 1 _ (intCells [X]) (by rfl) HRX.out (by rfl) (intCells_one _) hm3 hm4 hNd ?_; intro v5 w5 hown5 hg5 hk5; obtain ⟨hr5, hN5⟩ := Hrest2.out w5 hg5; obtain ⟨av5, cv5, rfl⟩ := own_len hown5)
                      | (refine step_append_rowN rfl (.tmp 101) (.tmp 102) 46 rfl N 3 i0 _ 8 Tryd.underlying46 Hi0.out Hz0.out Hz1.out Hz2.out (by rfl) _ (m + 1) _ (by rfl) hown5 _ (hr.length - m) _ (intCells (hr.drop m)) (by rfl) hr5 (by rw [intCells_len, List.length_drop]) (intCells_one _) hm5 hm6 hN5 ?_; intro v6 w6 hown6 hg6 hk6; obtain ⟨hc6, hf6, b6, c6, rfl, hP6⟩ := Hnext.out _ w5 v6 w6 hg5 hk5 hown6 hg6 hk6; have HP6 := Lib.hid hP6; clear hown5 hg5 hk5 hr5 hown6 hg6 hk6 hP6))
                    all_goals
                      go_wp2
                      go_roundw
                      case rel => exact ⟨k + 1, _, by go_num, by omega, by rw [List.length_set]; exact Hsl.out, Lib.hid ⟨(Hfin.out b6 c6).1, (Hfin.out b6 c6).2, HP6.out⟩⟩
                      case measure => simp [intOf] <;> omega
                · have dl : decide ((k : Int) < (l.length : Int)) = false := decide_eq_false (by omega)
                  have dl' : decide (k < l.length) = false := decide_eq_false hlt
                  go_wp2
                  go_ret
                  have hkl2 : k = l.length := by omega
                  refine ⟨G, cg, hs, _, l, by rw [Hsl.out]; rfl, by rw [Hsl.out, HN.out]; exact HR.out, by rw [Hsl.out]; omega, by rw [Hsl.out]; omega, fun h hh => ?_⟩
                  obtain ⟨q, hq, rfl⟩ := List.mem_iff_getElem.1 hh
                  have := Hsl.out
                  exact ⟨Hne.out q _ (by omega) (List.getElem?_eq_getElem hq), by have := Hle.out _ hh; omega⟩
end Go.Proofs.YtodgongemoabiaaDoor
