/-
  The walks of the program's tableOfImages, TwistMatrix and TimesTable.
-/
import Derived.Test.YtamgimdjnmcpaaaDoorBase
import Derived.Test.YtamgimdjnmcpaaaDoorSlice
import Derived.Test.YtamgimdjnmcpaaaDoorIntRow
import Derived.Test.YtamgimdjnmcpaaaDoorInts
import Derived.Test.YtamgimdjnmcpaaaDoorOwn
import Derived.Test.YtamgimdjnmcpaaaDoorAppend
import Derived.Test.YtamgimdjnmcpaaaDoorGrid
import Derived.Test.YtamgimdjnmcpaaaDoorGridWalk
import Derived.Test.YtamgimdjnmcpaaaDoorGridRows
import Derived.Test.YtamgimdjnmcpaaaDoorGivesRows
import Derived.Test.YtamgimdjnmcpaaaDoorRowsLit
import Derived.Test.YtamgimdjnmcpaaaDoorTw
import Derived.Test.YtamgimdjnmcpaaaDoorTwErr
import Derived.Test.YtamgimdjnmcpaaaDoorTwA
import Derived.Test.YtamgimdjnmcpaaaDoorTwB
import Derived.Test.YtamgimdjnmcpaaaDoorTwC
import Derived.Test.YtamgimdjnmcpaaaDoorTwD
import Derived.Deep.QuietTactic
import Derived.BigQuiet
import Derived.StillTailTactics
namespace Go.Proofs.YtamgimdjnmcpaaaDoor
open Go.RowKit

namespace Tw
def tab (im : List Int → List Int) (okb : List Int → Bool) (L : List (List Int)) : List (List Int) := if L.all okb = true then cols (L.map im) else []
theorem tab_true {im : List Int → List Int} {okb : List Int → Bool} {L : List (List Int)} (h : L.all okb = true) : tab im okb L = cols (L.map im) := if_pos h
theorem tab_false {im : List Int → List Int} {okb : List Int → Bool} {L : List (List Int)} (h : L.all okb = false) : tab im okb L = [] := if_neg (by rw [h]; decide)
end Tw
set_option maxRecDepth 10000 in
set_option maxHeartbeats 2000000 in
theorem impl_tableOf_mat (a : Option Addr) (c : Nat) (L : List (List Int)) (im : List Int → List Int) (okb : List Int → Bool) (b0 b1 : Nat) (w : World) (ha : GridAt w a L) (hn : L.length ≤ 6)
    (hF : ∀ W, Below w.heap.size w W → ∀ r ∈ L, ∀ ar cr, RowAt W ar (intCells r) → Calls Tryd.prog 59 #[.slice ar r.length cr, .pointer (some ⟨b0, 0, none⟩), .pointer (some ⟨b1, 0, none⟩)] W fun e w' => Gives2 W (im r) (okb r) e w') (hlen : ∀ r ∈ L, okb r = true → (im r).length = L.length) :
    Calls Tryd.prog 57 #[.slice a L.length c, .func (.func 59) #[] #[.pointer (some ⟨b0, 0, none⟩), .pointer (some ⟨b1, 0, none⟩)]] w fun e w' => GivesRows2 w (Tw.tab im okb L) (L.all okb) e w' := by
  obtain ⟨i0, hi0, hz0, hz1, hz2⟩ := info_ints_parts
  have Hi0 := Lib.hid hi0; have Hz0 := Lib.hid hz0; have Hz1 := Lib.hid hz1; have Hz2 := Lib.hid hz2
  have Ha := Lib.hid ha; have HF := Lib.hid hF; have Hlen := Lib.hid hlen
  have R0 := Lib.hid (RowsIn.nil (Below.refl w.heap.size w))
  clear hi0 hz0 hz1 hz2 ha hF hlen
  go_enter Tryd.func57, Tryd.ntmps57
  go_wp2
  go_loopw [4, 5, 6, 8, 9, 10, 13] (fun rv sv ov _ _ _ iv wr => rv = .slice none 0 0 ∧ sv = .bool false ∧ ∃ i : Nat, i ≤ L.length ∧ iv = .int .i64 i ∧ Hid (RowsIn w w.heap.size wr ov ((L.take i).map im)) ∧ Hid ((L.take i).all okb = true)) (fun _ _ _ _ _ _ iv _ => L.length - (intOf iv).toNat)
  case atStart => exact ⟨rfl, rfl, 0, by omega, rfl, R0, Lib.hid rfl⟩
  case round =>
    obtain ⟨rfl, rfl, i, hi, rfl, hR, hall⟩ := hrel
    have hRl : ((L.take i).map im).length = i := by rw [List.length_map, List.length_take]; omega
    by_cases hlt : i < L.length
    · obtain ⟨r, hr⟩ := get_some hlt
      obtain ⟨hs, h1, h2, h3, h4, h5⟩ := hR.out
      rw [hRl] at h2
      obtain ⟨b, o, ai, ci, eb, hbw, hcell, hrow⟩ := (Ha.out.below h5).get hr
      subst eb
      have hrm := get_mem hr
      have hcall := HF.out wr h5 r hrm ai ci hrow
      have hl := Hlen.out r hrm
      have htk : L.take (i + 1) = L.take i ++ [r] := by rw [List.take_add_one, hr]; rfl
      have i1 : (0 : Int) ≤ (i : Int) := by omega
      have i2 : (i : Int) < (L.length : Int) := by omega
      have hd1 : i + 1 ≤ maxLen := by unfold maxLen; omega
      have hd2 : (i + 1) * 24 ≤ 140737488355328 := by omega
      obtain ⟨ova, ovc, hov⟩ := own_len h2
      subst hov
      have hN := h5.size
      have hallr : L.all okb = true → okb r = true := fun h => List.all_eq_true.1 h r hrm
      by_cases hk : okb r = true
      · have hl2 := hl hk
        rw [hk] at hcall
        have Hpush := Lib.hid (fun (w8 : World) (hb8 : Below wr.heap.size wr w8) (ra : Option Addr) (rc : Nat) (hf : Fresh w8 wr.heap.size 3 ra (intCells (im r))) (v9 : Value) (w9 : World) (hc : (im r).length ≤ rc) (hown : w9.ownsRow w.heap.size 24 1 v9 (((L.take i).map im).length + 1) (hdCells hs ++ [.slice ra (im r).length rc])) (hg : (w8.alloc (.cells #[.slice ra (im r).length rc] 24)).grownBy w9 (Value.slice ova i ovc).ownBlock) => RowsIn.push h1 (by rw [hRl]; exact h2) h3 h4 h5 hN hb8 hf hc hown hg)
        have Hcall := Lib.hid hcall; have Htk := Lib.hid htk; have H2 := Lib.hid h2; have Hk := Lib.hid hk; have HN := Lib.hid hN; have HRl := Lib.hid hRl
        clear hcall htk h1 h2 h3 h4 h5 hN hk hl hl2 hrow hr hrm hallr hRl
        go_wp2_with fail
        refine Hcall.out.mono ?_
        rintro e w8 ⟨ra, rc, rfl, hrc, _, hf8, hb8⟩
        have Ho8 := Lib.hid (own_keep H2.out hb8 (fun k hk => (H2.out.lt k hk).2))
        have hN8 : w.heap.size ≤ w8.heap.size := Nat.le_trans HN.out hb8.size
        have Hf8 := Lib.hid hf8; have Hb8 := Lib.hid hb8; have Hrc := Lib.hid hrc
        clear hf8 hb8 hrc
        go_wp2_with (at_builtin; refine append_one rfl (.tmp 25) (.tmp 27) 31 rfl w.heap.size 24 i0 _ 24 Tryd.underlying31 Hi0.out Hz0.out Hz1.out Hz2.out (by rfl) _ _ _ rfl Ho8.out (by rfl) _ rfl hd1 hd2 hN8 ?_; intro v9 w9 hown9 hg9 _; have Hown9 := Lib.hid hown9; have Hg9 := Lib.hid hg9; clear hown9 hg9)
        go_roundw
        case rel => exact ⟨rfl, rfl, i + 1, by omega, by go_num, Lib.hid (by rw [Htk.out, List.map_append]; exact Hpush.out w8 Hb8.out ra rc Hf8.out v9 w9 Hrc.out (by rw [HRl.out]; exact Hown9.out) Hg9.out), Lib.hid (by rw [Htk.out, List.all_append, hall.out]; simp [Hk.out])⟩
        case measure => simp [intOf]; omega
      · have hkf : okb r = false := by simpa using hk
        rw [hkf] at hcall
        have Hno := Lib.hid (show L.all okb = false from by
          cases hq : L.all okb with
          | false => rfl
          | true => exact absurd (hallr hq) hk)
        have Hcall := Lib.hid hcall; have H5 := Lib.hid h5
        clear hcall htk h1 h2 h3 h4 h5 hN hk hl hrow hr hrm hallr hkf hRl
        go_wp2_with fail
        refine Hcall.out.mono ?_
        rintro e w8 ⟨ra, rc, rfl, _, _, _, hb8⟩
        have Hb8 := Lib.hid (H5.out.trans (hb8.mono H5.out.size)); clear hb8
        go_wp2
        go_ret2
        rw [Hno.out, Tw.tab_false Hno.out]
        exact GivesRows2.none Hb8.out (Nat.zero_le _)
    · obtain rfl : i = L.length := by omega
      rw [List.take_of_length_le (Nat.le_refl _)] at hR hall hRl
      obtain ⟨a5, c5, hv, hg5, hb5, _, _⟩ := hR.out.gridIn
      rw [hRl] at hv
      subst hv
      have hC := impl_columnsOf a5 c5 (L.map im) wr hg5.grid (fun q hq => by
        obtain ⟨r, hr, rfl⟩ := List.mem_map.1 hq
        rw [List.length_map]
        exact Hlen.out r hr (List.all_eq_true.1 hall.out r hr)) (by rw [List.length_map]; omega)
      rw [List.length_map] at hC
      have HC := Lib.hid hC; have Hb5 := Lib.hid hb5; have Hall := Lib.hid hall.out
      have Hcl := Lib.hid (show (Tw.cols (L.map im)).length = L.length by rw [Tw.cols_len, List.length_map])
      clear hC hg5 hb5 hall hR hRl
      go_wp2_with fail
      refine HC.out.mono ?_
      rintro e w8 ⟨ra, rc, rfl, hrc, hrm, hg8, hb8⟩
      have Hg8 := Lib.hid hg8; have Hb8 := Lib.hid (Hb5.out.trans (hb8.mono Hb5.out.size)); have Hrc := Lib.hid hrc
      clear hg8 hb8 hrc
      go_wp2
      go_ret2
      rw [Hall.out, Tw.tab_true Hall.out]
      exact ⟨ra, rc, rfl, Hrc.out, hrm, Hg8.out.mono Hb5.out.size (Nat.le_refl _), Hb8.out⟩
set_option maxRecDepth 10000 in
set_option maxHeartbeats 2000000 in
theorem impl_tableOf_times (a : Option Addr) (c : Nat) (L : List (List Int)) (im : List Int → List Int) (okb : List Int → Bool) (b0 : Nat) (w : World) (ha : GridAt w a L) (hn : L.length ≤ 6)
    (hF : ∀ W, Below w.heap.size w W → ∀ r ∈ L, ∀ ar cr, RowAt W ar (intCells r) → Calls Tryd.prog 64 #[.slice ar r.length cr, .pointer (some ⟨b0, 0, none⟩)] W fun e w' => Gives2 W (im r) (okb r) e w') (hlen : ∀ r ∈ L, okb r = true → (im r).length = L.length) :
    Calls Tryd.prog 57 #[.slice a L.length c, .func (.func 64) #[] #[.pointer (some ⟨b0, 0, none⟩)]] w fun e w' => GivesRows2 w (Tw.tab im okb L) (L.all okb) e w' := by
  obtain ⟨i0, hi0, hz0, hz1, hz2⟩ := info_ints_parts
  have Hi0 := Lib.hid hi0; have Hz0 := Lib.hid hz0; have Hz1 := Lib.hid hz1; have Hz2 := Lib.hid hz2
  have Ha := Lib.hid ha; have HF := Lib.hid hF; have Hlen := Lib.hid hlen
  have R0 := Lib.hid (RowsIn.nil (Below.refl w.heap.size w))
  clear hi0 hz0 hz1 hz2 ha hF hlen
  go_enter Tryd.func57, Tryd.ntmps57
  go_wp2
  go_loopw [4, 5, 6, 8, 9, 10, 13] (fun rv sv ov _ _ _ iv wr => rv = .slice none 0 0 ∧ sv = .bool false ∧ ∃ i : Nat, i ≤ L.length ∧ iv = .int .i64 i ∧ Hid (RowsIn w w.heap.size wr ov ((L.take i).map im)) ∧ Hid ((L.take i).all okb = true)) (fun _ _ _ _ _ _ iv _ => L.length - (intOf iv).toNat)
  case atStart => exact ⟨rfl, rfl, 0, by omega, rfl, R0, Lib.hid rfl⟩
  case round =>
    obtain ⟨rfl, rfl, i, hi, rfl, hR, hall⟩ := hrel
    have hRl : ((L.take i).map im).length = i := by rw [List.length_map, List.length_take]; omega
    by_cases hlt : i < L.length
    · obtain ⟨r, hr⟩ := get_some hlt
      obtain ⟨hs, h1, h2, h3, h4, h5⟩ := hR.out
      rw [hRl] at h2
      obtain ⟨b, o, ai, ci, eb, hbw, hcell, hrow⟩ := (Ha.out.below h5).get hr
      subst eb
      have hrm := get_mem hr
      have hcall := HF.out wr h5 r hrm ai ci hrow
      have hl := Hlen.out r hrm
      have htk : L.take (i + 1) = L.take i ++ [r] := by rw [List.take_add_one, hr]; rfl
      have i1 : (0 : Int) ≤ (i : Int) := by omega
      have i2 : (i : Int) < (L.length : Int) := by omega
      have hd1 : i + 1 ≤ maxLen := by unfold maxLen; omega
      have hd2 : (i + 1) * 24 ≤ 140737488355328 := by omega
      obtain ⟨ova, ovc, hov⟩ := own_len h2
      subst hov
      have hN := h5.size
      have hallr : L.all okb = true → okb r = true := fun h => List.all_eq_true.1 h r hrm
      by_cases hk : okb r = true
      · have hl2 := hl hk
        rw [hk] at hcall
        have Hpush := Lib.hid (fun (w8 : World) (hb8 : Below wr.heap.size wr w8) (ra : Option Addr) (rc : Nat) (hf : Fresh w8 wr.heap.size 3 ra (intCells (im r))) (v9 : Value) (w9 : World) (hc : (im r).length ≤ rc) (hown : w9.ownsRow w.heap.size 24 1 v9 (((L.take i).map im).length + 1) (hdCells hs ++ [.slice ra (im r).length rc])) (hg : (w8.alloc (.cells #[.slice ra (im r).length rc] 24)).grownBy w9 (Value.slice ova i ovc).ownBlock) => RowsIn.push h1 (by rw [hRl]; exact h2) h3 h4 h5 hN hb8 hf hc hown hg)
        have Hcall := Lib.hid hcall; have Htk := Lib.hid htk; have H2 := Lib.hid h2; have Hk := Lib.hid hk; have HN := Lib.hid hN; have HRl := Lib.hid hRl
        clear hcall htk h1 h2 h3 h4 h5 hN hk hl hl2 hrow hr hrm hallr hRl
        go_wp2_with fail
        refine Hcall.out.mono ?_
        rintro e w8 ⟨ra, rc, rfl, hrc, _, hf8, hb8⟩
        have Ho8 := Lib.hid (own_keep H2.out hb8 (fun k hk => (H2.out.lt k hk).2))
        have hN8 : w.heap.size ≤ w8.heap.size := Nat.le_trans HN.out hb8.size
        have Hf8 := Lib.hid hf8; have Hb8 := Lib.hid hb8; have Hrc := Lib.hid hrc
        clear hf8 hb8 hrc
        go_wp2_with (at_builtin; refine append_one rfl (.tmp 25) (.tmp 27) 31 rfl w.heap.size 24 i0 _ 24 Tryd.underlying31 Hi0.out Hz0.out Hz1.out Hz2.out (by rfl) _ _ _ rfl Ho8.out (by rfl) _ rfl hd1 hd2 hN8 ?_; intro v9 w9 hown9 hg9 _; have Hown9 := Lib.hid hown9; have Hg9 := Lib.hid hg9; clear hown9 hg9)
        go_roundw
        case rel => exact ⟨rfl, rfl, i + 1, by omega, by go_num, Lib.hid (by rw [Htk.out, List.map_append]; exact Hpush.out w8 Hb8.out ra rc Hf8.out v9 w9 Hrc.out (by rw [HRl.out]; exact Hown9.out) Hg9.out), Lib.hid (by rw [Htk.out, List.all_append, hall.out]; simp [Hk.out])⟩
        case measure => simp [intOf]; omega
      · have hkf : okb r = false := by simpa using hk
        rw [hkf] at hcall
        have Hno := Lib.hid (show L.all okb = false from by
          cases hq : L.all okb with
          | false => rfl
          | true => exact absurd (hallr hq) hk)
        have Hcall := Lib.hid hcall; have H5 := Lib.hid h5
        clear hcall htk h1 h2 h3 h4 h5 hN hk hl hrow hr hrm hallr hkf hRl
        go_wp2_with fail
        refine Hcall.out.mono ?_
        rintro e w8 ⟨ra, rc, rfl, _, _, _, hb8⟩
        have Hb8 := Lib.hid (H5.out.trans (hb8.mono H5.out.size)); clear hb8
        go_wp2
        go_ret2
        rw [Hno.out, Tw.tab_false Hno.out]
        exact GivesRows2.none Hb8.out (Nat.zero_le _)
    · obtain rfl : i = L.length := by omega
      rw [List.take_of_length_le (Nat.le_refl _)] at hR hall hRl
      obtain ⟨a5, c5, hv, hg5, hb5, _, _⟩ := hR.out.gridIn
      rw [hRl] at hv
      subst hv
      have hC := impl_columnsOf a5 c5 (L.map im) wr hg5.grid (fun q hq => by
        obtain ⟨r, hr, rfl⟩ := List.mem_map.1 hq
        rw [List.length_map]
        exact Hlen.out r hr (List.all_eq_true.1 hall.out r hr)) (by rw [List.length_map]; omega)
      rw [List.length_map] at hC
      have HC := Lib.hid hC; have Hb5 := Lib.hid hb5; have Hall := Lib.hid hall.out
      have Hcl := Lib.hid (show (Tw.cols (L.map im)).length = L.length by rw [Tw.cols_len, List.length_map])
      clear hC hg5 hb5 hall hR hRl
      go_wp2_with fail
      refine HC.out.mono ?_
      rintro e w8 ⟨ra, rc, rfl, hrc, hrm, hg8, hb8⟩
      have Hg8 := Lib.hid hg8; have Hb8 := Lib.hid (Hb5.out.trans (hb8.mono Hb5.out.size)); have Hrc := Lib.hid hrc
      clear hg8 hb8 hrc
      go_wp2
      go_ret2
      rw [Hall.out, Tw.tab_true Hall.out]
      exact ⟨ra, rc, rfl, Hrc.out, hrm, Hg8.out.mono Hb5.out.size (Nat.le_refl _), Hb8.out⟩
set_option maxRecDepth 10000 in
theorem impl_twistOf (g : Int) (ac : Option Addr) (cc : Nat) (c : List Int) (ax : Option Addr) (cx : Nat) (x : List Int) (w : World) (bg bc : Nat) (hg : w.cell? ⟨bg, 0, none⟩ = some (.int .i64 g)) (hcl : w.cell? ⟨bc, 0, none⟩ = some (.slice ac c.length cc)) (hE : Errs w) (hc : RowAt w ac (intCells c)) (hlc : c.length ≤ 1048576) (hx : RowAt w ax (intCells x)) (hlx : x.length ≤ 1048576) :
    Calls Tryd.prog 59 #[.slice ax x.length cx, .pointer (some ⟨bg, 0, none⟩), .pointer (some ⟨bc, 0, none⟩)] w fun e w' => Gives2 w (Tw.twist g c x 1) (decide (Tw.TwOk g c x 1)) e w' := by
  have HT := Lib.hid (impl_TwistClass g ac cc c ax cx x 1 w hE hc hlc hx hlx)
  generalize decide (Tw.TwOk g c x 1) = okk at *
  generalize Tw.twist g c x 1 = R at *
  clear hE hc hx
  go_enter Tryd.func59, Tryd.ntmps59
  go_wp2_with fail
  refine HT.out.mono ?_
  rintro e w1 ⟨ra, rc, rfl, h1, h2, hf, hb⟩
  have Hf := Lib.hid hf; have Hb := Lib.hid hb; have H1 := Lib.hid h1
  clear hf hb h1
  go_wp2
  go_ret2
  exact ⟨ra, rc, rfl, H1.out, h2, Hf.out, Hb.out⟩
set_option maxRecDepth 10000 in
theorem impl_applyOf (a : Option Addr) (c : Nat) (T : List (List Int)) (ax : Option Addr) (cx : Nat) (x : List Int) (w : World) (bg : Nat) (hg : w.cell? ⟨bg, 0, none⟩ = some (.slice a T.length c)) (hE : Errs w) (ha : GridAt w a T) (hn : T.length ≤ 1048576) (hT : ∀ r ∈ T, r.length ≤ 1048576) (hx : RowAt w ax (intCells x)) (hlx : x.length ≤ 1048576) :
    Calls Tryd.prog 64 #[.slice ax x.length cx, .pointer (some ⟨bg, 0, none⟩)] w fun e w' => Gives2 w (Tw.apply T x) (decide (Tw.AppOk T x)) e w' := by
  have HT := Lib.hid (impl_ApplyTable a c T ax cx x w hE ha hn hT hx hlx)
  generalize decide (Tw.AppOk T x) = okk at *
  generalize Tw.apply T x = R at *
  clear hE ha hx hT
  go_enter Tryd.func64, Tryd.ntmps64
  go_wp2_with fail
  refine HT.out.mono ?_
  rintro e w1 ⟨ra, rc, rfl, h1, h2, hf, hb⟩
  have Hf := Lib.hid hf; have Hb := Lib.hid hb; have H1 := Lib.hid h1
  clear hf hb h1
  go_wp2
  go_ret2
  exact ⟨ra, rc, rfl, H1.out, h2, Hf.out, Hb.out⟩
namespace Tw
theorem mat_tab {g : Int} {c : List Int} {n : Nat} (hc : IsC g c) (hn : c.length = n) : tab (fun x => twist g c x 1) (fun x => decide (TwOk g c x 1)) (units n n) = mat g c ∧ (units n n).all (fun x => decide (TwOk g c x 1)) = decide (MatOk g c) := by
  subst hn
  have hl := hc.len
  have hu : ∀ j, IsC g (unit c.length j) := fun j => unit_isC hc.1 hc.2.1 j
  have hk : ∀ j, TwOk g c (unit c.length j) 1 ↔ Fits (tw c (unit c.length j) (1 * form c (unit c.length j))) := fun j => ⟨fun h => h.2.2, fun h => ⟨⟨hc, hu j⟩, by omega, h⟩⟩
  by_cases hm : MatOk g c
  · have hall : (units c.length c.length).all (fun x => decide (TwOk g c x 1)) = true := by
      rw [List.all_eq_true]
      intro x hx
      unfold units at hx
      obtain ⟨j, hj, rfl⟩ := List.mem_map.1 hx
      exact decide_eq_true ((hk j).2 (hm.2 _ (List.mem_map.2 ⟨j, hj, rfl⟩)))
    refine ⟨?_, by rw [hall, decide_eq_true hm]⟩
    rw [tab_true hall, mat_of hm]
    congr 1
    unfold units imgs
    rw [List.map_map]
    refine List.map_congr_left fun j hj => ?_
    exact twist_of ((hk j).2 (hm.2 _ (List.mem_map.2 ⟨j, hj, rfl⟩)))
  · have hall : (units c.length c.length).all (fun x => decide (TwOk g c x 1)) = false := by
      rw [Bool.eq_false_iff]
      intro h
      rw [List.all_eq_true] at h
      refine hm ⟨hc, fun y hy => ?_⟩
      obtain ⟨j, hj, rfl⟩ := List.mem_map.1 hy
      exact (hk j).1 (of_decide_eq_true (h _ (List.mem_map.2 ⟨j, hj, rfl⟩)))
    exact ⟨by rw [tab_false hall, mat_none hm], by rw [hall, decide_eq_false hm]⟩
theorem twist_len {g k : Int} {c x : List Int} (h : decide (TwOk g c x k) = true) : (twist g c x k).length = x.length := by
  rw [twist_of (of_decide_eq_true h), tw_len]
theorem apply_len {T : List (List Int)} {x : List Int} (h : decide (AppOk T x) = true) : (apply T x).length = T.length := by
  rw [show apply T x = app T x from if_pos (of_decide_eq_true h), app_len]
theorem times_tab {s t : List (List Int)} (ht : IsT t) : tab (fun x => apply s x) (fun x => decide (AppOk s x)) (cols t) = times s t ∧ (cols t).all (fun x => decide (AppOk s x)) = decide (TimesOk s t) := by
  have hk : TimesOk s t ↔ ∀ x ∈ cols t, AppOk s x := by
    constructor
    · intro h x hx
      have hx2 := cols_row hx
      have hst := h.1.2.2
      refine ⟨⟨h.1.1, by omega, ?_⟩, h.2 x hx⟩
      obtain ⟨j, _, rfl⟩ := cols_mem hx
      exact col_fits ht j
    · intro h
      have h1 : 0 < t.length := by have := ht.1.1; omega
      have hm := h _ (List.mem_of_getElem? (cols_get h1))
      have hl : s.length = t.length := by have := hm.1.2.1; rw [col_len] at this; exact this.symm
      exact ⟨⟨hm.1.1, ht, hl⟩, fun c hc => (h c hc).2⟩
  by_cases hm : TimesOk s t
  · have hall : (cols t).all (fun x => decide (AppOk s x)) = true := by
      rw [List.all_eq_true]
      intro x hx
      exact decide_eq_true (hk.1 hm x hx)
    refine ⟨?_, by rw [hall, decide_eq_true hm]⟩
    rw [tab_true hall, show times s t = _ from if_pos hm]
    congr 1
    refine List.map_congr_left fun x hx => ?_
    exact if_pos (hk.1 hm x hx)
  · have hall : (cols t).all (fun x => decide (AppOk s x)) = false := by
      rw [Bool.eq_false_iff]
      intro h
      rw [List.all_eq_true] at h
      exact hm (hk.2 fun x hx => of_decide_eq_true (h x hx))
    exact ⟨by rw [tab_false hall, times_none hm], by rw [hall, decide_eq_false hm]⟩
end Tw
set_option maxRecDepth 10000 in
set_option maxHeartbeats 2000000 in
theorem impl_TwistMatrix (g : Int) (ac : Option Addr) (cc : Nat) (c : List Int) (w : World) (hE : Errs w) (hc : RowAt w ac (intCells c)) (hlc : c.length ≤ 1048576) :
    Calls Tryd.prog 17 #[.int .i64 g, .slice ac c.length cc] w fun e w' => GivesRows2 w (Tw.mat g c) (decide (Tw.MatOk g c)) e w' := by
  have hbA : Below w.heap.size w ((w.alloc (.cells #[.int .i64 g] 3)).alloc (.cells #[.slice ac c.length cc] 24)) := ((Below.refl _ _).alloc (Nat.le_refl _) _).alloc (by simp) _
  have hg1 : Blk ((w.alloc (.cells #[.int .i64 g] 3)).alloc (.cells #[.slice ac c.length cc] 24)) w.heap.size 3 #[.int .i64 g] := (Blk.new w _ _).alloc _
  have hv1 : Blk ((w.alloc (.cells #[.int .i64 g] 3)).alloc (.cells #[.slice ac c.length cc] 24)) (w.heap.size + 1) 24 #[.slice ac c.length cc] := by
    have := Blk.new (w.alloc (.cells #[.int .i64 g] 3)) 24 #[.slice ac c.length cc]
    rwa [show (w.alloc (.cells #[.int .i64 g] 3)).heap.size = w.heap.size + 1 by simp] at this
  obtain ⟨WA, hWA⟩ : ∃ W, (w.alloc (.cells #[.int .i64 g] 3)).alloc (.cells #[.slice ac c.length cc] 24) = W := ⟨_, rfl⟩
  rw [hWA] at hbA hg1 hv1
  have kg := fun W (hb : Below WA.heap.size WA W) => show W.cell? ⟨w.heap.size, 0, none⟩ = some (.int .i64 g) from (hg1.below hb hg1.lt).cell 0
  have kv := fun W (hb : Below WA.heap.size WA W) => show W.cell? ⟨w.heap.size + 1, 0, none⟩ = some (.slice ac c.length cc) from (hv1.below hb hv1.lt).cell 0
  have k1 := kg WA (Below.refl _ _)
  have k2 := kv WA (Below.refl _ _)
  have hC := impl_IsClass g ac cc c WA (hE.keeps hbA) (hc.below hbA) hlc
  by_cases cC : Tw.IsC g c
  · rw [decide_eq_true cC] at hC
    have hl := cC.len
    obtain ⟨n, hn⟩ : ∃ n, c.length = n := ⟨_, rfl⟩
    have hm := Tw.mat_tab cC hn
    have hU := fun W => impl_unitClasses g n W (by rw [← hn]; exact cC.2.1) (by omega)
    have hTa := fun W a' cp (hb : Below WA.heap.size WA W) (hL : GridAt W a' (Tw.units n n)) => impl_tableOf_mat a' cp (Tw.units n n) (fun x => Tw.twist g c x 1) (fun x => decide (Tw.TwOk g c x 1)) w.heap.size (w.heap.size + 1) W hL (by rw [Tw.units_len]; omega)
      (fun W' hb' r hr ar cr hrow => impl_twistOf g ac cc c ar cr r W' _ _ (kg W' (hb.trans (hb'.mono hb.size))) (kv W' (hb.trans (hb'.mono hb.size))) ((hE.keeps hbA).keeps (hb.trans (hb'.mono hb.size))) (hc.below (hbA.trans ((hb.trans (hb'.mono hb.size)).mono hbA.size))) hlc hrow (by
        unfold Tw.units at hr
        obtain ⟨j, _, rfl⟩ := List.mem_map.1 hr
        rw [Tw.unit_len]; omega))
      (fun r hr h => by
        rw [Tw.twist_len h, Tw.units_len]
        unfold Tw.units at hr
        obtain ⟨j, _, rfl⟩ := List.mem_map.1 hr
        rw [Tw.unit_len])
    rw [hm.1, hm.2, Tw.units_len] at hTa
    have HU := Lib.hid hU; have HTa := Lib.hid hTa; have HC := Lib.hid hC; have HbA := Lib.hid hbA; have HWA := Lib.hid hWA
    have Hul := Lib.hid (Tw.units_len n n)
    have Kg := Lib.hid kg; have Kv := Lib.hid kv
    clear hU hTa hC hbA hWA hm cC hl hn hE hc kg kv hg1 hv1
    generalize decide (Tw.MatOk g c) = okk at *
    generalize Tw.mat g c = R at *
    generalize Tw.units n n = U at *
    go_enter Tryd.func17, Tryd.ntmps17
    go_wp2_with fail
    rw [HWA.out]
    go_wp2_with fail
    refine HC.out.mono ?_
    rintro e w1 ⟨rfl, hb1⟩
    have k3 := Kg.out w1 hb1
    have k4 := Kv.out w1 hb1
    have Hb1 := Lib.hid hb1; clear hb1 k1 k2
    go_wp2_with fail
    refine (HU.out w1).mono ?_
    rintro e w2 ⟨ua, uc, rfl, _, _, hg2, hb2⟩
    rw [Hul.out]
    have Hg2 := Lib.hid hg2; have Hb2 := Lib.hid (Hb1.out.trans (hb2.mono Hb1.out.size)); clear hg2 hb2 k3 k4
    go_wp2_with fail
    refine (HTa.out w2 ua uc Hb2.out Hg2.out.grid).mono ?_
    rintro e w3 ⟨ra, rc, rfl, h1, h2, hg3, hb3⟩
    have Hg3 := Lib.hid hg3; have Hb3 := Lib.hid (Hb2.out.trans (hb3.mono Hb2.out.size)); have H1 := Lib.hid h1; clear hb3 h1
    have Hz := Lib.hid (Nat.le_trans HbA.out.size Hb2.out.size)
    clear hg3
    go_wp2
    go_ret2
    exact ⟨ra, rc, rfl, H1.out, h2, Hg3.out.mono Hz.out (Nat.le_refl _), HbA.out.trans (Hb3.out.mono HbA.out.size)⟩
  · rw [decide_eq_false cC] at hC
    have hno : ¬ Tw.MatOk g c := fun h => cC h.1
    rw [Tw.mat_none hno, decide_eq_false hno]
    have HC := Lib.hid hC; have HbA := Lib.hid hbA; have HWA := Lib.hid hWA
    clear hC hbA hWA cC hE hc kg kv hg1 hv1 hno
    go_enter Tryd.func17, Tryd.ntmps17
    go_wp2_with fail
    rw [HWA.out]
    go_wp2_with fail
    refine HC.out.mono ?_
    rintro e w1 ⟨rfl, hb1⟩
    have Hb1 := Lib.hid hb1; clear hb1 k1 k2
    go_wp2
    go_ret2
    exact GivesRows2.none (HbA.out.trans (Hb1.out.mono HbA.out.size)) (Nat.zero_le _)
set_option maxRecDepth 10000 in
set_option maxHeartbeats 2000000 in
theorem impl_TimesTable (aS : Option Addr) (cS : Nat) (S : List (List Int)) (aT : Option Addr) (cT : Nat) (T : List (List Int)) (w : World) (hE : Errs w) (hS : GridAt w aS S) (hnS : S.length ≤ 1048576) (hrS : ∀ r ∈ S, r.length ≤ 1048576) (hT : GridAt w aT T) (hnT : T.length ≤ 1048576) (hrT : ∀ r ∈ T, r.length ≤ 1048576) :
    Calls Tryd.prog 23 #[.slice aS S.length cS, .slice aT T.length cT] w fun e w' => GivesRows2 w (Tw.times S T) (decide (Tw.TimesOk S T)) e w' := by
  have hbA : Below w.heap.size w (w.alloc (.cells #[.slice aS S.length cS] 31)) := (Below.refl _ _).alloc (Nat.le_refl _) _
  have hg1 : Blk (w.alloc (.cells #[.slice aS S.length cS] 31)) w.heap.size 31 #[.slice aS S.length cS] := Blk.new w _ _
  obtain ⟨WA, hWA⟩ : ∃ W, w.alloc (.cells #[.slice aS S.length cS] 31) = W := ⟨_, rfl⟩
  rw [hWA] at hbA hg1
  have kg := fun W (hb : Below WA.heap.size WA W) => show W.cell? ⟨w.heap.size, 0, none⟩ = some (.slice aS S.length cS) from (hg1.below hb hg1.lt).cell 0
  have hC := impl_isTable aT cT T WA (hE.keeps hbA) (hT.below hbA) hnT hrT
  by_cases cC : Tw.IsT T
  · rw [decide_eq_true cC] at hC
    have hm := Tw.times_tab (s := S) cC
    have hU := fun W (hb : Below WA.heap.size WA W) => impl_columnsOf aT cT T W (hT.below (hbA.trans (hb.mono hbA.size))) (fun r hr => (cC.2 r hr).1) (by have := cC.1.2; omega)
    have hTa := fun W a' cp (hb : Below WA.heap.size WA W) (hL : GridAt W a' (Tw.cols T)) => impl_tableOf_times a' cp (Tw.cols T) (fun x => Tw.apply S x) (fun x => decide (Tw.AppOk S x)) w.heap.size W hL (by rw [Tw.cols_len]; have := cC.1.2; omega)
      (fun W' hb' r hr ar cr hrow => impl_applyOf aS cS S ar cr r W' _ (kg W' (hb.trans (hb'.mono hb.size))) ((hE.keeps hbA).keeps (hb.trans (hb'.mono hb.size))) (hS.below (hbA.trans ((hb.trans (hb'.mono hb.size)).mono hbA.size))) hnS hrS hrow (by
        rw [Tw.cols_row hr]; exact hnT))
      (fun r hr h => by
        have h2 := of_decide_eq_true h
        rw [Tw.apply_len h, Tw.cols_len, ← h2.1.2.1, Tw.cols_row hr])
    rw [hm.1, hm.2, Tw.cols_len] at hTa
    have HU := Lib.hid hU; have HTa := Lib.hid hTa; have HC := Lib.hid hC; have HbA := Lib.hid hbA; have HWA := Lib.hid hWA
    have Hul := Lib.hid (Tw.cols_len T)
    clear hU hTa hC hbA hWA hm cC hE hS hT kg hg1 hrS hrT
    generalize decide (Tw.TimesOk S T) = okk at *
    generalize Tw.times S T = R at *
    generalize Tw.cols T = U at *
    go_enter Tryd.func23, Tryd.ntmps23
    go_wp2_with fail
    rw [HWA.out]
    refine HC.out.mono ?_
    rintro e w1 ⟨rfl, hb1⟩
    have Hb1 := Lib.hid hb1; clear hb1
    go_wp2_with fail
    refine (HU.out w1 Hb1.out).mono ?_
    rintro e w2 ⟨ua, uc, rfl, _, _, hg2, hb2⟩
    rw [Hul.out]
    have Hg2 := Lib.hid hg2; have Hb2 := Lib.hid (Hb1.out.trans (hb2.mono Hb1.out.size)); clear hg2 hb2
    go_wp2_with fail
    refine (HTa.out w2 ua uc Hb2.out Hg2.out.grid).mono ?_
    rintro e w3 ⟨ra, rc, rfl, h1, h2, hg3, hb3⟩
    have Hg3 := Lib.hid hg3; have Hb3 := Lib.hid (Hb2.out.trans (hb3.mono Hb2.out.size)); have H1 := Lib.hid h1; clear hb3 h1
    have Hz := Lib.hid (Nat.le_trans HbA.out.size Hb2.out.size)
    clear hg3
    go_wp2
    go_ret2
    exact ⟨ra, rc, rfl, H1.out, h2, Hg3.out.mono Hz.out (Nat.le_refl _), HbA.out.trans (Hb3.out.mono HbA.out.size)⟩
  · rw [decide_eq_false cC] at hC
    have hno : ¬ Tw.TimesOk S T := fun h => cC h.1.2.1
    rw [Tw.times_none hno, decide_eq_false hno]
    have HC := Lib.hid hC; have HbA := Lib.hid hbA; have HWA := Lib.hid hWA
    clear hC hbA hWA cC hE hS hT kg hg1 hno
    go_enter Tryd.func23, Tryd.ntmps23
    go_wp2_with fail
    rw [HWA.out]
    refine HC.out.mono ?_
    rintro e w1 ⟨rfl, hb1⟩
    have Hb1 := Lib.hid hb1; clear hb1
    go_wp2
    go_ret2
    exact GivesRows2.none (HbA.out.trans (Hb1.out.mono HbA.out.size)) (Nat.zero_le _)
end Go.Proofs.YtamgimdjnmcpaaaDoor
