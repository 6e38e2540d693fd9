/-
  The walks of the program's unitClasses and columnsOf.
-/
import Derived.Test.YtamgimdjnmcpaaaDoorBase
import Derived.Test.YtamgimdjnmcpaaaDoorSlice
import Derived.Test.YtamgimdjnmcpaaaDoorIntRow
import Derived.Test.YtamgimdjnmcpaaaDoorInts
import Derived.Test.YtamgimdjnmcpaaaDoorOwn
import Derived.Test.YtamgimdjnmcpaaaDoorAppend
import Derived.Test.YtamgimdjnmcpaaaDoorGrid
import Derived.Test.YtamgimdjnmcpaaaDoorGridWalk
import Derived.Test.YtamgimdjnmcpaaaDoorGridRows
import Derived.Test.YtamgimdjnmcpaaaDoorGivesRows
import Derived.Test.YtamgimdjnmcpaaaDoorRowsLit
import Derived.Test.YtamgimdjnmcpaaaDoorBagA
import Derived.Test.YtamgimdjnmcpaaaDoorHead
import Derived.Test.YtamgimdjnmcpaaaDoorTw
import Derived.Test.YtamgimdjnmcpaaaDoorTwErr
import Derived.Test.YtamgimdjnmcpaaaDoorTwB
import Derived.Test.YtamgimdjnmcpaaaDoorTwC
import Derived.Deep.QuietTactic
import Derived.BigQuiet
import Derived.StillTailTactics
namespace Go.Proofs.YtamgimdjnmcpaaaDoor
open Go.RowKit

def Tw.units (n i : Nat) : List (List Int) := (List.range i).map (Tw.unit n)
theorem Tw.units_len (n i : Nat) : (Tw.units n i).length = i := by simp [Tw.units]
theorem Tw.units_snoc (n i : Nat) : Tw.units n (i + 1) = Tw.units n i ++ [Tw.unit n i] := by
  unfold Tw.units; rw [List.range_succ, List.map_append]; rfl
set_option maxRecDepth 10000 in
set_option maxHeartbeats 2000000 in
theorem impl_unitClasses (g : Int) (n : Nat) (w : World) (hn : (n : Int) = 2 * g) (hn6 : n ≤ 6) :
    Calls Tryd.prog 58 #[.int .i64 g] w fun e w' => GivesRows w (Tw.units n n) e w' := by
  obtain ⟨i0, hi0, hz0, hz1, hz2⟩ := info_ints_parts
  have Hi0 := Lib.hid hi0; have Hz0 := Lib.hid hz0; have Hz1 := Lib.hid hz1; have Hz2 := Lib.hid hz2
  have e1 : IntKind.i64.wrap (2 * g) = (n : Int) := by rw [← hn]; exact wrap_small (by omega) (by omega)
  have hmk := fun W => mk_zeros n (by omega) W
  have R0 := Lib.hid (RowsIn.nil (Below.refl w.heap.size w))
  clear hi0 hz0 hz1 hz2 hn
  go_enter Tryd.func58, Tryd.ntmps58
  go_wp2
  go_loopw [3, 4, 5, 8] (fun ov _ _ iv wr => ∃ i : Nat, i ≤ n ∧ iv = .int .i64 i ∧ Hid (RowsIn w w.heap.size wr ov (Tw.units n i))) (fun _ _ _ iv _ => n - (intOf iv).toNat)
  case atStart => exact ⟨0, by omega, rfl, R0⟩
  case round =>
    obtain ⟨i, hi, rfl, hR⟩ := hrel
    by_cases hlt : i < n
    · obtain ⟨hs, h1, h2, h3, h4, h5⟩ := hR.out
      rw [Tw.units_len] at h2
      have hN := h5.size
      obtain ⟨ova, ovc, hov⟩ := own_len h2
      subst hov
      have hb8 : Below wr.heap.size wr (wr.alloc (.cells ((intCells (List.replicate n 0)).set i (.int .i64 1)).toArray 3)) := (Below.refl wr.heap.size wr).alloc (Nat.le_refl _) _
      have hk0 : Blk (wr.alloc (.cells (intCells (List.replicate n 0)).toArray 3)) wr.heap.size 3 (intCells (List.replicate n 0)).toArray := Blk.new wr _ _
      have hc0 := cell_ints hk0 (show (List.replicate n (0 : Int))[i]? = some 0 by rw [List.getElem?_replicate, if_pos hlt])
      have hf0 := hk0.frozen i
      have hset : (intCells (List.replicate n 0)).set i (.int .i64 1) = intCells (Tw.unit n i) := by simp [intCells, Tw.unit, List.map_set]
      have hk8 : Blk (wr.alloc (.cells ((intCells (List.replicate n 0)).set i (.int .i64 1)).toArray 3)) wr.heap.size 3 (intCells (Tw.unit n i)).toArray := by rw [hset]; exact Blk.new wr _ _
      have hf8 : Fresh (wr.alloc (.cells ((intCells (List.replicate n 0)).set i (.int .i64 1)).toArray 3)) wr.heap.size 3 (some ⟨wr.heap.size, 0, none⟩) (intCells (Tw.unit n i)) := Fresh.of_blk hk8 (Nat.le_refl _)
      have ho8 := own_keep h2 hb8 (fun k hk => (h2.lt k hk).2)
      have hN8 : w.heap.size ≤ (wr.alloc (.cells ((intCells (List.replicate n 0)).set i (.int .i64 1)).toArray 3)).heap.size := Nat.le_trans hN hb8.size
      have hsz8 : (wr.alloc (.cells ((intCells (List.replicate n 0)).set i (.int .i64 1)).toArray 3)).heap.size = wr.heap.size + 1 := by simp
      have Hpush := Lib.hid (fun (v9 : Value) (w9 : World) (c : Nat) (hc : (Tw.unit n i).length ≤ c) (hown : w9.ownsRow w.heap.size 24 1 v9 ((Tw.units n i).length + 1) (hdCells hs ++ [.slice (some ⟨wr.heap.size, 0, none⟩) (Tw.unit n i).length c])) (hg : ((wr.alloc (.cells ((intCells (List.replicate n 0)).set i (.int .i64 1)).toArray 3)).alloc (.cells #[.slice (some ⟨wr.heap.size, 0, none⟩) (Tw.unit n i).length c] 24)).grownBy w9 (Value.slice ova i ovc).ownBlock) => RowsIn.push h1 (by rw [Tw.units_len]; exact h2) h3 h4 h5 hN hb8 hf8 hc hown hg)
      obtain ⟨W8, hW8⟩ : ∃ W8, wr.alloc (.cells ((intCells (List.replicate n 0)).set i (.int .i64 1)).toArray 3) = W8 := ⟨_, rfl⟩
      rw [hW8] at ho8 hN8 hsz8 Hpush
      have Ho8 := Lib.hid ho8; have HW8 := Lib.hid hW8
      have i1 : (0 : Int) ≤ (i : Int) := by omega
      have i2 : (i : Int) < (n : Int) := by omega
      have hd1 : i + 1 ≤ maxLen := by unfold maxLen; omega
      have hd2 : (i + 1) * 24 ≤ 140737488355328 := by omega
      clear h1 h2 h3 h4 h5 hb8 hk0 hk8 hf8 ho8 hN hW8 hset
      go_wp2_with (at_builtin; rw [HW8.out]; refine append_one_at (wr.heap.size + 1) hsz8 rfl (.tmp 17) (.tmp 19) 31 rfl w.heap.size 24 i0 _ 24 Tryd.underlying31 Hi0.out Hz0.out Hz1.out Hz2.out (by rfl) _ _ _ rfl Ho8.out (by rfl) _ (by rfl) hd1 hd2 hN8 ?_; intro v2 w2 hown3 hg2 _)
      go_roundw
      case rel => exact ⟨i + 1, by omega, by go_num, Lib.hid (by rw [Tw.units_snoc]; exact Hpush.out v2 w2 n (by rw [Tw.unit_len]; exact Nat.le_refl _) (by rw [Tw.units_len, Tw.unit_len]; exact hown3) (by rw [Tw.unit_len]; exact hg2))⟩
      case measure => simp [intOf]; omega
    · obtain rfl : i = n := by omega
      have Hg := Lib.hid hR.out.gives
      obtain ⟨hs, h1, h2, h3, h4, h5⟩ := hR.out
      obtain ⟨ova, ovc, rfl⟩ := own_len h2
      clear h1 h2 h3 h4 h5
      go_wp2
      go_ret
      exact Hg.out
namespace Tw
/-- The columns, the first j of them whole, of the next one the first i numbers. -/
def colsTo (T : List (List Int)) (n j i : Nat) : List (List Int) := (List.range n).map fun m => if m < j then col T m else if m = j then (col T m).take i else []
theorem colsTo_len (T : List (List Int)) (n j i : Nat) : (colsTo T n j i).length = n := by simp [colsTo]
theorem colsTo_zero (T : List (List Int)) (n : Nat) : colsTo T n 0 0 = List.replicate n [] := by
  unfold colsTo
  refine List.ext_getElem (by simp) fun m h1 h2 => ?_
  simp only [List.getElem_map, List.getElem_range, List.getElem_replicate]
  by_cases h : m = 0
  · rw [if_neg (by omega), if_pos h]; rfl
  · rw [if_neg (by omega), if_neg h]
theorem colsTo_get {T : List (List Int)} {n j i : Nat} (h : j < n) : (colsTo T n j i)[j]? = some ((col T j).take i) := by
  unfold colsTo
  rw [List.getElem?_map, List.getElem?_range h]
  simp
theorem col_take {T : List (List Int)} {j i : Nat} {r : List Int} (h : T[i]? = some r) : (col T j).take (i + 1) = (col T j).take i ++ [nth r j] := by
  rw [List.take_add_one]
  unfold col
  rw [List.getElem?_map, h]; rfl
theorem colsTo_put {T : List (List Int)} {n j i : Nat} {r : List Int} (h : T[i]? = some r) : (colsTo T n j i).set j ((col T j).take i ++ [nth r j]) = colsTo T n j (i + 1) := by
  unfold colsTo
  refine List.ext_getElem (by simp) fun m h1 h2 => ?_
  rw [List.getElem_set]
  simp only [List.getElem_map, List.getElem_range]
  by_cases e : j = m
  · subst e
    rw [if_pos rfl, if_neg (by omega), if_pos rfl, col_take h]
  · rw [if_neg e]
    by_cases h : m < j
    · rw [if_pos h, if_pos h]
    · rw [if_neg h, if_neg (by omega), if_neg h, if_neg (by omega)]
theorem colsTo_next (T : List (List Int)) (n j : Nat) : colsTo T n j T.length = colsTo T n (j + 1) 0 := by
  unfold colsTo
  refine List.map_congr_left fun m _ => ?_
  by_cases e : m = j
  · subst e
    rw [if_neg (by omega), if_pos rfl, if_pos (by omega), List.take_of_length_le (by rw [col_len]; exact Nat.le_refl _)]
  · by_cases h : m < j
    · rw [if_pos h, if_pos (by omega)]
    · rw [if_neg h, if_neg e, if_neg (by omega)]
      by_cases h2 : m = j + 1
      · rw [if_pos h2]; rfl
      · rw [if_neg h2]
theorem colsTo_all (T : List (List Int)) : colsTo T T.length T.length 0 = cols T := by
  unfold colsTo cols
  refine List.map_congr_left fun m hm => ?_
  rw [List.mem_range] at hm
  rw [if_pos hm]
end Tw
set_option maxRecDepth 10000 in
set_option maxHeartbeats 2000000 in
theorem impl_columnsOf (a : Option Addr) (c : Nat) (T : List (List Int)) (w : World) (ha : GridAt w a T) (hT : ∀ r ∈ T, r.length = T.length) (hn : T.length ≤ 1000) :
    Calls Tryd.prog 63 #[.slice a T.length c] w fun e w' => GivesRows w (Tw.cols T) e w' := by
  obtain ⟨i0, hi0, hz0, hz1, hz2⟩ := info_int_parts
  have Hi0 := Lib.hid hi0; have Hz0 := Lib.hid hz0; have Hz1 := Lib.hid hz1; have Hz2 := Lib.hid hz2
  have hmk := mk_rowsA T.length hn w
  have S0 := Lib.hid (Sack.start (n := T.length) (Nat.le_refl w.heap.size))
  have Hb0 := Lib.hid ((Below.refl w.heap.size w).alloc (Nat.le_refl _) (.cells (hdCells (List.replicate T.length ⟨none, 0, []⟩)).toArray 24))
  have Hall := Lib.hid (Tw.colsTo_all T); have Hz := Lib.hid (Tw.colsTo_zero T T.length)
  have Ha := Lib.hid ha; have HT := Lib.hid hT
  obtain ⟨G, hG⟩ : ∃ G, G = w.heap.size := ⟨_, rfl⟩
  rw [← hG] at hmk S0
  have HG := Lib.hid hG
  have Hcl := Lib.hid (Tw.cols_len T)
  clear hi0 hz0 hz1 hz2 ha hT hG
  go_enter Tryd.func63, Tryd.ntmps63
  go_wp2
  clear hmk
  go_loopw [4, 6, 12] (fun _ _ jv wr => ∃ j : Nat, j ≤ T.length ∧ jv = .int .i64 j ∧ Hid (Below w.heap.size w wr) ∧ ∃ hs : List Hd, Hid (hs.map Hd.l = Tw.colsTo T T.length j 0) ∧ Hid (Sack wr G G hs)) (fun _ _ jv _ => T.length - (intOf jv).toNat)
  case atStart => exact ⟨0, by omega, rfl, Hb0, _, Lib.hid (by rw [Hz.out]; simp), S0⟩
  case round =>
    obtain ⟨j, hj, rfl, hb, hs, hmap, hsk⟩ := hrel
    by_cases hjt : j < T.length
    · obtain ⟨wo, rfl⟩ : ∃ wo : World, wo = wr := ⟨_, rfl⟩
      go_wp2
      go_loopw [6, 17] (fun _ iv wr => ∃ i : Nat, i ≤ T.length ∧ iv = .int .i64 i ∧ Hid (Below w.heap.size w wr) ∧ ∃ hs : List Hd, Hid (hs.map Hd.l = Tw.colsTo T T.length j i) ∧ Hid (Sack wr G G hs)) (fun _ iv _ => T.length - (intOf iv).toNat)
      case atStart => exact ⟨0, by omega, rfl, hb, hs, hmap, hsk⟩
      case round =>
        obtain ⟨i, hi, rfl, hb, hs, hmap, hsk⟩ := hrel
        by_cases hlt : i < T.length
        · obtain ⟨r, hr⟩ := get_some hlt
          obtain ⟨b, o, ai, ci, eb, hbw, hcell0, hrow⟩ := Ha.out.get hr
          subst eb
          have hrl := HT.out r (get_mem hr)
          obtain ⟨b1, o1, e1, hb1w, hc1⟩ := intCells_get? hrow (Tw.get?_nth (show j < r.length by rw [hrl]; exact hjt))
          subst e1
          have hcell : wr.cell? ⟨b, o + i, none⟩ = some (.slice (some ⟨b1, o1, none⟩) T.length ci) := by rw [hb.out.cell hbw, ← hrl]; exact hcell0
          have hbd : Below wr.heap.size wr wr.drew := Below.drew (Below.refl _ _)
          have hD1 : wr.drew.cell? ⟨b1, o1 + j, none⟩ = some (.int .i64 (Tw.nth r j)) := by rw [(Below.drew hb.out).cell hb1w]; exact hc1
          have hskd : Sack wr.drew G G hs := hsk.out.below hbd
          have hbb : Below w.heap.size w wr.drew := Below.drew hb.out
          have hget := Tw.colsTo_get (T := T) (i := i) hjt
          have hput := Tw.colsTo_put (n := T.length) (j := j) hr
          have hxm : (hs.map Hd.l)[j]? = some ((Tw.col T j).take i) := by rw [hmap.out]; exact hget
          rw [List.getElem?_map] at hxm
          obtain ⟨x, hx, hxl⟩ := Option.map_eq_some_iff.1 hxm
          rw [← hmap.out, ← hxl] at hput
          have hxll : x.l.length = i := by rw [hxl, List.length_take, Tw.col_len]; omega
          have hD2 := hskd.cell hx
          have hox := hskd.own x (get_mem hx)
          have hbk := hskd.blk
          have hGo := hbk.otherOf hox (by decide)
          have hval : x.val = .slice x.a x.l.length x.c := rfl
          generalize Tw.nth r j = V at *
          have hpush := fun (v1 : Value) (w1 : World) (h1 : w1.ownsRow G 3 1 v1 (x.l.length + 1) (intCells x.l ++ [.int .i64 V])) (h2 : (wr.drew.alloc (.cells #[.int .i64 V] 3)).grownBy w1 (Value.slice x.a x.l.length x.c).ownBlock) (h3 : v1.ownBlock = (Value.slice x.a x.l.length x.c).ownBlock ∨ v1.ownBlock = some (wr.drew.alloc (.cells #[.int .i64 V] 3)).heap.size) => hskd.push hx h1 h2 h3
          have hGG := hbk.lt
          have hdst : ∀ W, Blk W G 24 (hdCells hs).toArray → W.cell? ⟨G, j, none⟩ = some (.slice x.a x.l.length x.c) := fun W h => by rw [h.cell j, ← hbk.cell j, ← hval]; exact hD2
          have hnx : ∀ h' : Hd, h'.l = x.l ++ [V] → (hs.set j h').map Hd.l = Tw.colsTo T T.length j (i + 1) := fun h' e => by rw [List.map_set, e]; exact hput
          rw [hval] at hD2 hox hGo
          have hm1 : x.l.length + 1 ≤ maxLen := by unfold maxLen; omega
          have hm2 : (x.l.length + 1) * 8 ≤ 140737488355328 := by omega
          have hN2 : G ≤ wr.drew.heap.size := Nat.le_of_lt hGG
          have hD3 : ∀ o : Obj, (wr.drew.alloc o).cell? ⟨b1, o1 + j, none⟩ = some (.int .i64 V) := fun o => by rw [((Below.refl wr.drew.heap.size wr.drew).alloc (Nat.le_refl _) o).cell (World.block_lt_of_cell? _ _ hD1)]; exact hD1
          have hD4 : ∀ o : Obj, (wr.drew.alloc o).cell? ⟨G, j, none⟩ = some (.slice x.a x.l.length x.c) := fun o => by rw [((Below.refl wr.drew.heap.size wr.drew).alloc (Nat.le_refl _) o).cell hGG]; exact hD2
          have HGo := Lib.hid hGo; have Hpush := Lib.hid hpush; have Hdst := Lib.hid hdst; have Hnx := Lib.hid hnx; have Hox := Lib.hid hox; have Hbk := Lib.hid hbk; have Hbb := Lib.hid hbb; have HxL := Lib.hid hxll
          have HS0 := Lib.hid (And.intro hD1 hD2); have HD3 := Lib.hid hD3; have HD4 := Lib.hid hD4
          have q0 : (0 : Int) ≤ (i : Int) := by omega
          have q1 : (i : Int) < (T.length : Int) := by omega
          have j0 : (0 : Int) ≤ (j : Int) := by omega
          have j1 : (j : Int) < (T.length : Int) := by omega
          clear hr hrow hrl hcell0 hbw hc1 hb1w hbd hskd hget hput hxm hx hxl hox hbk hGo hval hpush hGG hdst hnx hbb hD1 hD2 hD3 hD4 hb hmap hsk
          generalize x.l.length = xl at *
          subst hxll
          go_wp2
          refine wp_region_free 14 (by kernel_rfl) rfl ?_
          generalize wr.drew = W at *
          refine any_take (i := 0) (v := ?_) rfl (by kernel_rfl) (fun _ _ _ h => h) rfl ?_ ?_
          rotate_left; · (intro w'; go_simp; try with_reducible rfl)
          try simp only [Act.put, List.setIfInBounds_toArray, List.set_cons_zero, List.set_cons_succ]
          refine any_take (i := 1) (v := ?_) rfl (by kernel_rfl) (fun _ _ _ h => h) rfl ?_ ?_
          rotate_left; · (intro w'; go_simp; try with_reducible rfl)
          try simp only [Act.put, List.setIfInBounds_toArray, List.set_cons_zero, List.set_cons_succ]
          refine any_head 11 9 3 (fun w' => w'.cell? ⟨b1, o1 + j, none⟩ = some (.int .i64 V) ∧ w'.cell? ⟨G, j, none⟩ = some (.slice x.a xl x.c)) rfl rfl HS0.out (fun hS => ?_)
          refine HdAny.take (i := 2) (v := ?_) rfl (by kernel_rfl) (fun _ _ _ h => h) rfl ?_ hS ?_
          rotate_left; · (intro w' hSw; go_split_ands; go_simp; try with_reducible rfl)
          try simp only [Act.put, List.setIfInBounds_toArray, List.set_cons_zero, List.set_cons_succ]
          refine HdAny.take (i := 3) (v := ?_) rfl (by kernel_rfl) (fun _ _ _ h => h) rfl ?_ hS ?_
          rotate_left; · (intro w' hSw; go_split_ands; go_simp; try with_reducible rfl)
          try simp only [Act.put, List.setIfInBounds_toArray, List.set_cons_zero, List.set_cons_succ]
          refine HdAny.take (i := 4) (v := ?_) rfl (by kernel_rfl) (fun _ _ _ h => h) rfl ?_ hS ?_
          rotate_left; · (intro w' hSw; go_split_ands; go_simp; try with_reducible rfl)
          try simp only [Act.put, List.setIfInBounds_toArray, List.set_cons_zero, List.set_cons_succ]
          refine HdAny.take (i := 5) (v := ?_) rfl (by kernel_rfl) (fun _ _ _ h => h) rfl ?_ hS ?_
          rotate_left; · (intro w' hSw; go_split_ands; go_simp; try with_reducible rfl)
          try simp only [Act.put, List.setIfInBounds_toArray, List.set_cons_zero, List.set_cons_succ]
          refine HdAny.take (i := 6) (v := ?_) rfl (by kernel_rfl) (fun _ _ _ h => h) rfl ?_ hS ?_
          rotate_left; · (intro w' hSw; go_split_ands; go_simp; try with_reducible rfl)
          try simp only [Act.put, List.setIfInBounds_toArray, List.set_cons_zero, List.set_cons_succ]
          refine HdAny.take (i := 7) (v := ?_) rfl (by kernel_rfl) (fun _ _ _ h => h) rfl ?_ hS ?_
          rotate_left; · (intro w' hSw; go_split_ands; go_simp; try with_reducible rfl)
          try simp only [Act.put, List.setIfInBounds_toArray, List.set_cons_zero, List.set_cons_succ]
          refine HdAny.take (i := 8) (v := ?_) rfl (by kernel_rfl) (fun _ _ _ h => h) rfl ?_ hS ?_
          rotate_left; · (intro w' hSw; go_split_ands; go_simp; try with_reducible rfl)
          try simp only [Act.put, List.setIfInBounds_toArray, List.set_cons_zero, List.set_cons_succ]
          refine HdAny.take (i := 9) (v := ?_) rfl (by kernel_rfl) (fun _ _ _ h => h) rfl ?_ hS ?_
          rotate_left; · (intro w' hSw; go_split_ands; go_simp; try with_reducible rfl)
          try simp only [Act.put, List.setIfInBounds_toArray, List.set_cons_zero, List.set_cons_succ]
          refine HdAny.one (i := 10) rfl (by kernel_rfl) (fun K hK => ?_)
          go_simp
          refine hK.out _ _ ⟨HD3.out _, HD4.out _⟩ (fun hS => ?_)
          clear hK K
          try simp only [Act.put, List.setIfInBounds_toArray, List.set_cons_zero, List.set_cons_succ]
          refine HdAny.done (by kernel_rfl) ?_
          simp only [List.drop_succ_cons, List.drop_zero]
          go_wp2_with (at_builtin; refine append_one_new rfl (.tmp 26) (.tmp 31) 24 rfl G 3 i0 _ 8 Tryd.underlying24 Hi0.out Hz0.out Hz1.out Hz2.out (by rfl) _ _ _ rfl Hox.out (by rfl) _ rfl hm1 hm2 hN2 ?_; intro v1 w1 hown1 hg1 hn1; obtain ⟨a1, c1, rfl⟩ := own_len hown1; have hbk1 := (Hbk.out.alloc (.cells #[.int .i64 V] 3)).grown hg1 (fun e => HGo.out e.symm); have hdst := Hdst.out w1 hbk1; have hfz1 := hbk1.frozen j; have Hown1 := Lib.hid hown1; have Hg1 := Lib.hid (show (W.alloc (.cells #[.int .i64 V] 3)).grownBy w1 (Value.slice x.a xl x.c).ownBlock from hg1); have Hn1 := Lib.hid (show (Value.slice a1 (xl + 1) c1).ownBlock = (Value.slice x.a xl x.c).ownBlock ∨ (Value.slice a1 (xl + 1) c1).ownBlock = some (W.alloc (.cells #[.int .i64 V] 3)).heap.size from hn1); clear hown1 hg1 hn1 hbk1)
          go_roundw
          case rel =>
            obtain ⟨h', e1, e2, hB⟩ := Hpush.out _ w1 Hown1.out Hg1.out Hn1.out
            exact ⟨xl + 1, by omega, by go_num, Lib.hid (Below.setCell (Below.grown (Hbb.out.alloc Hbb.out.size _) Hg1.out (by have := Hbb.out.size; simp; omega) (fun q hq => by rw [← HG.out]; exact (Hox.out.lt q hq).1)) (by rw [HG.out]; exact Nat.le_refl _) _), hs.set j h', Lib.hid (Hnx.out h' e1), Lib.hid hB⟩
          case measure => simp [intOf]; omega
        · obtain rfl : i = T.length := by omega
          go_wp2
          go_roundw
          case rel => exact ⟨j + 1, by omega, by go_num, hb, hs, Lib.hid (by rw [← Tw.colsTo_next]; exact hmap.out), hsk⟩
          case measure => simp [intOf]; omega
    · obtain rfl : j = T.length := by omega
      have hg := hsk.out.all
      rw [hmap.out, Hall.out, HG.out] at hg
      have Hg := Lib.hid hg
      clear hg
      go_wp2
      go_ret
      exact ⟨_, _, by rw [Hcl.out]; rfl, by rw [Hcl.out]; exact Nat.le_refl _, by unfold maxLen; omega, by rw [HG.out]; exact Hg.out, hb.out⟩
end Go.Proofs.YtamgimdjnmcpaaaDoor
