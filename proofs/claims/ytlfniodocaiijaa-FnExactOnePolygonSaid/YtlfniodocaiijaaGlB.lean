/-
  Two polygons joined along a letter; a polygon left out: the walks of joinAlong and of the library's Delete.
-/
import Derived.Test.YtlfniodocaiijaaBase
import Derived.Test.YtlfniodocaiijaaSlice
import Derived.Test.YtlfniodocaiijaaIntRow
import Derived.Test.YtlfniodocaiijaaInts
import Derived.Test.YtlfniodocaiijaaOwn
import Derived.Test.YtlfniodocaiijaaGrid
import Derived.Test.YtlfniodocaiijaaGridWalk
import Derived.Test.YtlfniodocaiijaaGridRows
import Derived.Test.YtlfniodocaiijaaWord
import Derived.Test.YtlfniodocaiijaaGlue
import Derived.Test.YtlfniodocaiijaaIsWord
import Derived.Test.YtlfniodocaiijaaUses
import Derived.Test.YtlfniodocaiijaaIsGluing
import Derived.Test.YtlfniodocaiijaaAppend
import Derived.Test.YtlfniodocaiijaaConcat
import Derived.Test.YtlfniodocaiijaaTurn
import Derived.Test.YtlfniodocaiijaaIter
import Derived.Test.YtlfniodocaiijaaInvert
import Derived.Test.YtlfniodocaiijaaClass
import Derived.Test.YtlfniodocaiijaaLab
import Derived.Test.YtlfniodocaiijaaEnds
import Derived.Test.YtlfniodocaiijaaLetters
import Derived.Test.YtlfniodocaiijaaMove
import Derived.Test.YtlfniodocaiijaaMoveA
import Derived.Test.YtlfniodocaiijaaCut
import Derived.Test.YtlfniodocaiijaaGlA
import Derived.Deep.QuietTactic
import Derived.BigQuiet
import Derived.Deep.RegionLaw
import Derived.StillTailTactics
import Derived.Lib.SliceRun
namespace Go.Proofs.Ytlfniodocaiijaa
open Go.RowKit

theorem map_erase {α β : Type} (f : α → β) (l : List α) (k : Nat) : (l.eraseIdx k).map f = (l.map f).eraseIdx k := by
  induction l generalizing k with
  | nil => rfl
  | cons a t ih => cases k with
    | zero => rfl
    | succ k => simp [ih]
namespace Mv
theorem in_inv {l : List Int} {x : Int} (h : In l x) : In (Word.inv l) x := by
  obtain ⟨y, hy, he⟩ := h
  exact ⟨-y, inv_mem.2 (by rw [Int.neg_neg]; exact hy), by rw [Int.natAbs_neg]; exact he⟩
theorem joined_turn {a b : List Int} {x y : Int} (hy : a[at_ a x]? = some y) (h : y ∈ b) : joined a b x = a.take (at_ a x) ++ (Word.inv b).drop (at_ (Word.inv b) x + 1) ++ (Word.inv b).take (at_ (Word.inv b) x) ++ a.drop (at_ a x + 1) := by
  unfold joined
  rw [List.getD_eq_getElem?_getD, hy, Option.getD_some, if_pos h]
theorem joined_keep {a b : List Int} {x y : Int} (hy : a[at_ a x]? = some y) (h : y ∉ b) : joined a b x = a.take (at_ a x) ++ b.drop (at_ b x + 1) ++ b.take (at_ b x) ++ a.drop (at_ a x + 1) := by
  unfold joined
  rw [List.getD_eq_getElem?_getD, hy, Option.getD_some, if_neg h]
end Mv
theorem row_cut {w : World} {b o c m : Nat} {l : List Int} (h : RowAt w (some ⟨b, o, none⟩) (intCells l)) (hm : m ≤ l.length) (hc : l.length ≤ c) : RowAt w (if c = m then some ⟨b, o, none⟩ else some ⟨b, o + m, none⟩) (intCells (l.drop m)) := by
  by_cases e : c = m
  · exact Or.inl (by rw [List.drop_eq_nil_of_le (by omega)]; rfl)
  · rw [if_neg e]; exact row_drop h

/-- Cells of a block, set one by one. -/
def putAll : Array Value → Nat → List Value → Array Value
  | cs, _, [] => cs
  | cs, o, v :: r => putAll (cs.setIfInBounds o v) (o + 1) r
theorem putAll_size : ∀ (vs : List Value) (cs : Array Value) (o : Nat), (putAll cs o vs).size = cs.size
  | [], _, _ => rfl
  | v :: r, cs, o => by rw [putAll, putAll_size r]; simp
theorem putAll_get : ∀ (vs : List Value) (cs : Array Value) (o j : Nat), (putAll cs o vs)[j]? = if o ≤ j ∧ j < o + vs.length ∧ j < cs.size then vs[j - o]? else cs[j]?
  | [], cs, o, j => by rw [putAll, if_neg (by simp; omega)]
  | v :: r, cs, o, j => by
    rw [putAll, putAll_get r, Array.size_setIfInBounds]
    by_cases h1 : o + 1 ≤ j ∧ j < o + 1 + r.length ∧ j < cs.size
    · rw [if_pos h1, if_pos (by simp; omega), show j - o = (j - (o + 1)) + 1 by omega]; simp
    · rw [if_neg h1, Array.getElem?_setIfInBounds]
      by_cases h2 : o = j
      · subst h2
        by_cases h3 : o < cs.size
        · simp [h3]
        · simp [h3]
      · rw [if_neg h2, if_neg (by simp; omega)]
theorem Blk.putAll {g : Nat} {t : TypeId} : ∀ (vs : List Value) {w : World} {cs : Array Value} (o : Nat), Blk w g t cs → Blk (w.setCells g o vs) g t (Go.Proofs.Ytlfniodocaiijaa.putAll cs o vs)
  | [], _, _, _, h => h
  | v :: r, w, cs, o, h => by
    rw [World.setCells]
    exact Blk.putAll r (o + 1) (h.put o v)
theorem setCells_far {g k : Nat} (hk : k ≠ g) : ∀ (vs : List Value) (w : World) (o : Nat), (w.setCells g o vs).heap[k]? = w.heap[k]?
  | [], _, _ => rfl
  | v :: r, w, o => by rw [World.setCells, setCells_far hk r, Below.heap_setCell _ _ _ _ hk]
theorem setCells_below {B g : Nat} {w0 : World} (hg : B ≤ g) : ∀ (vs : List Value) {w : World} (o : Nat), Below B w0 w → Below B w0 (w.setCells g o vs)
  | [], _, _, h => h
  | v :: r, w, o, h => by rw [World.setCells]; exact setCells_below hg r (o + 1) (h.setCell hg v)
theorem setCells_size {g : Nat} : ∀ (vs : List Value) (w : World) (o : Nat), (w.setCells g o vs).heap.size = w.heap.size
  | [], _, _ => rfl
  | v :: r, w, o => by rw [World.setCells, setCells_size r]; simp [World.setCell]
/-- What slices.Delete leaves of held rows. -/
theorem Held.erased {w : World} {lo g n cap q m : Nat} {L : List (List Int)} {hs : List Hd} (hm : hs.map Hd.l = L) (hown : w.ownsRow lo 42 1 (.slice (some ⟨g, 0, none⟩) n cap) n (hdCells hs)) (hin : ∀ h ∈ hs, RowIn w lo w.heap.size 3 h.a (intCells h.l)) (hap : Apts hs) (hn : L.length = n) (hq : q < n) (z : Value) :
    Held (((w.drewN m).setCells g q ((hdCells hs).drop (q + 1))).setCells g (n - 1) [z]) lo (.slice (some ⟨g, 0, none⟩) (n - 1) cap) (L.eraseIdx q) ∧ Below lo w (((w.drewN m).setCells g q ((hdCells hs).drop (q + 1))).setCells g (n - 1) [z]) := by
  have hsl : hs.length = n := by rw [← hn, ← hm]; simp
  have hlt := hown.lt g rfl
  rcases hown.2 with ⟨e, _⟩ | ⟨g', cap', cur, e, hbg, hh, hle, hmx, hcs, htk⟩
  · cases e
  · cases e
    have hk : Blk w g 42 cur := hh
    have hk2 := (hk.drewN m).putAll ((hdCells hs).drop (q + 1)) q
    have hk3 := hk2.putAll [z] (n - 1)
    have hsz : (((w.drewN m).setCells g q ((hdCells hs).drop (q + 1))).setCells g (n - 1) [z]).heap.size = w.heap.size := by rw [setCells_size, setCells_size]; rfl
    refine ⟨⟨hs.eraseIdx q, by rw [map_erase, hm], ?_, fun x hx => ?_, ?_⟩, setCells_below hbg _ _ (setCells_below hbg _ _ (below_drewN (Below.refl _ _) _))⟩
    · have hLl : (L.eraseIdx q).length = n - 1 := by rw [List.length_eraseIdx, if_pos (by omega), hn]
      rw [hLl]
      refine ⟨by rw [hdCells_len, List.length_eraseIdx, if_pos (by omega), hsl, Nat.mul_one], Or.inr ⟨g, cap, _, rfl, hbg, hk3, by omega, hmx, by rw [putAll_size, putAll_size]; exact hcs, ?_⟩⟩
      rw [Nat.mul_one]
      have hcur : ∀ j, j < n → cur[j]? = (hdCells hs)[j]? := fun j hj => by
        rw [← htk, List.getElem?_take, if_pos (by omega)]; simp
      have hcsz : n ≤ cur.size := by rw [hcs]; omega
      apply List.ext_getElem?
      intro j
      rw [List.getElem?_take]
      by_cases hj : j < n - 1
      · rw [if_pos hj, Array.getElem?_toList, putAll_get, if_neg (by simp; omega), putAll_get]
        show _ = (List.map Hd.val (hs.eraseIdx q))[j]?
        rw [map_erase]
        show _ = ((hdCells hs).eraseIdx q)[j]?
        rw [List.getElem?_eraseIdx]
        by_cases h1 : j < q
        · rw [if_pos h1, if_neg (by omega), hcur j (by omega)]
        · rw [if_neg h1, if_pos ⟨by omega, by rw [List.length_drop, hdCells_len]; omega, by omega⟩, List.getElem?_drop, show q + 1 + (j - q) = j + 1 by omega]
      · rw [if_neg hj, List.getElem?_eq_none (by rw [hdCells_len, List.length_eraseIdx, if_pos (by omega), hsl]; omega)]
    · rw [hsz]
      have hx' : x ∈ hs := List.mem_of_mem_eraseIdx hx
      rcases hin x hx' with e | ⟨g2, o2, all, e, e1, e2, e3, e4⟩
      · exact Or.inl e
      · have hne : g2 ≠ g := by
          rintro rfl
          unfold Blk at e3; rw [hh] at e3
          injection e3 with e3; injection e3 with _ e6 _
          exact absurd e6 (by decide)
        refine Or.inr ⟨g2, o2, all, e, e1, e2, ?_, e4⟩
        unfold Blk at e3 ⊢
        rw [setCells_far hne, setCells_far hne]
        exact e3
    · have hsub : (hs.eraseIdx q).Sublist hs := List.eraseIdx_sublist _ _
      exact ⟨hap.1.sublist hsub, fun x hx => hap.2 x (List.mem_of_mem_eraseIdx hx)⟩
theorem wpList_clear_runs {P : Program} {ops : Array Oper} {rest : List Oper} {o : Oper} {a : Act} {Q : Exit → Act → World → Prop} {w : World} (hgd : o.guard = none) (s : Operand) (t : TypeId)
    (ho : o.op = .call { callee := .builtin .clear, args := #[s], argTypes := #[t] }) (v : Value) (hs : a.eval s = v) {u : Value} {w' : World}
    (hr : (Builtin.clear_ #[t] o.type #[v]).run P w = .ok u w') (h : wpList P ops Q rest (a.put o.dst u) w') : wpList P ops Q (o :: rest) a w :=
  wpList_plain hgd fun _ hK => by
    unfold Oper.wp execOp
    simp only [ho, resolve, invoke, builtin, Sem.run_bind, Sem.run_pure, Result.andThen_ok, List.map_toArray, List.map_cons, List.map_nil, hs, hr]
    exact hK _ _ h

theorem zero_ints : ∀ w : World, (zeroValue 42).run Try.prog w = .ok (.slice none 0 0) w := fun w => by rfl
set_option maxRecDepth 10000 in
set_option maxHeartbeats 4000000 in
theorem impl_joinAlong (pa qa : Option Addr) (pc qc : Nat) (l m : List Int) (x : Int) (w : World) (ha : RowAt w pa (intCells l)) (hb : RowAt w qa (intCells m)) (hwa : Word.IsW l) (hwb : Word.IsW m) (hca : l.length ≤ pc) (hcb : m.length ≤ qc) (hIa : Mv.In l x) (hIb : Mv.In m x) :
    Calls Try.prog 61 #[.slice pa l.length pc, .slice qa m.length qc, .int .i64 x] w fun e w' => Gives w (Mv.joined l m x) e w' := by
  obtain ⟨y, hy, hyx⟩ := Mv.at_get hIa
  have hk1 := Mv.at_lt.2 hIa
  have hl24 := hwa.2
  have hm24 := hwb.2
  obtain ⟨ab, ao, rfl⟩ := row_some ha (by omega)
  have hS := fun W (hW : Below w.heap.size w W) => impl_sideWith (some ⟨ab, ao, none⟩) pc l x W (ha.below hW) (by omega) hwa.1
  rw [Mv.idxOf_in hIa] at hS
  have hK := fun W (hW : Below w.heap.size w W) => lib_Contains qa qc m y W (hb.below hW) (by omega)
  have hjt := Mv.joined_turn (b := m) hy
  have hjk := Mv.joined_keep (b := m) hy
  obtain ⟨_, _, e1, _, hcy⟩ := intCells_get? ha hy
  cases e1
  obtain ⟨A2, hA2⟩ : ∃ A2, (if pc = Mv.at_ l x + 1 then some (⟨ab, ao, none⟩ : Addr) else some ⟨ab, ao + (Mv.at_ l x + 1), none⟩) = A2 := ⟨_, rfl⟩
  have hrA2 := fun W (hW : Below w.heap.size w W) => row_cut (m := Mv.at_ l x + 1) (ha.below hW) (by omega) hca
  rw [hA2] at hrA2
  have hrT2 := fun W (hW : Below w.heap.size w W) => row_take (m := Mv.at_ l x) (ha.below hW)
  have hcy0 : ∀ W, Below w.heap.size w W → W.cell? ⟨ab, ao + Mv.at_ l x, none⟩ = some (.int .i64 y) := fun W hW => by
    obtain ⟨_, _, e1, _, h⟩ := intCells_get? (ha.below hW) hy
    cases e1; exact h
  have hl1 : (l.take (Mv.at_ l x)).length = Mv.at_ l x := by simp; omega
  have hl2 : (l.drop (Mv.at_ l x + 1)).length = l.length - (Mv.at_ l x + 1) := by simp
  generalize hk : Mv.at_ l x = k at *
  have HS := Lib.hid hS; have HK := Lib.hid hK; have HA2 := Lib.hid hA2; have HrA2 := Lib.hid hrA2; have HrT2 := Lib.hid hrT2; have Hcy := Lib.hid hcy0; have Hl1 := Lib.hid hl1; have Hl2 := Lib.hid hl2; have Hhb := Lib.hid hb
  have j1 : k ≤ l.length := by omega
  have j2 : (k : Int) ≤ (l.length : Int) := by omega
  have j3 : (0 : Int) ≤ (k : Int) := by omega
  have j4 : k ≤ pc := by omega
  have j5 : (k : Int) ≤ (pc : Int) := by omega
  have j6 : (k : Int) < (l.length : Int) := by omega
  have j7 : k + 1 ≤ l.length := by omega
  have j8 : (k : Int) + 1 ≤ (l.length : Int) := by omega
  have j9 : (0 : Int) ≤ (k : Int) + 1 := by omega
  have j10 : IntKind.i64.wrap ((k : Int) + 1) = (k : Int) + 1 := wrap_small (by omega) (by omega)
  have j11 : ((k : Int) + 1).toNat = k + 1 := by omega
  clear hS hK hA2 hrA2 hrT2 hcy0 hcy ha hl1 hl2 hyx hk
  by_cases hin : y ∈ m
  · have hj := hjt hin
    have hIi := Mv.in_inv hIb
    have hinv := fun W (hW : Below w.heap.size w W) => impl_InverseWord qa qc m W (hb.below hW) (by omega)
    rw [inverse_of hwb] at hinv
    have hwi := Mv.inv_w hwb
    rw [decide_eq_true hin] at HK
    have HInv := Lib.hid hinv
    have hmi : (Word.inv m).length = m.length := Word.inv_len m
    rw [hj]
    generalize Word.inv m = n at *
    have hn24 : n.length ≤ 24 := by omega
    clear hjt hjk hj hinv hb hin
    go_enter Try.func61, Try.ntmps61
    go_wp2_with fail
    refine (HS.out w (Below.refl _ _)).mono ?_
    rintro e w1 ⟨rfl, hb1⟩
    have hcy1 := Hcy.out w1 hb1
    have Hb1 := Lib.hid hb1; clear hb1
    go_wp2_with fail
    refine (HK.out w1 Hb1.out).mono ?_
    rintro e w9 ⟨rfl, hw9⟩
    rw [hw9]; clear hw9 w9
    go_wp2_with fail
    refine (HInv.out w1 Hb1.out).mono ?_
    rintro e w2 ⟨ra, rc, rfl, hrc, _, hf, hb2⟩
    have Hb2 := Lib.hid (Hb1.out.trans (hb2.mono Hb1.out.size))
    have Hrow := Lib.hid hf.row
    have Hmi := Lib.hid hmi
    clear hf hb2 hcy1 hmi
    obtain ⟨z, hz, _⟩ := Mv.at_get hIi
    have hk2 := Mv.at_lt.2 hIi
    obtain ⟨nb, no, rfl⟩ := row_some Hrow.out (by omega)
    have hS2 := impl_sideWith (some ⟨nb, no, none⟩) rc n x w2 Hrow.out (by omega) hwi.1
    rw [Mv.idxOf_in hIi] at hS2
    obtain ⟨A1, hA1⟩ : ∃ A1, (if rc = Mv.at_ n x + 1 then some (⟨nb, no, none⟩ : Addr) else some ⟨nb, no + (Mv.at_ n x + 1), none⟩) = A1 := ⟨_, rfl⟩
    have hrA1 := row_cut (m := Mv.at_ n x + 1) Hrow.out (by omega) hrc
    rw [hA1] at hrA1
    have hrT1 := row_take (m := Mv.at_ n x) Hrow.out
    have hl3 : (n.take (Mv.at_ n x)).length = Mv.at_ n x := by simp; omega
    have hl4 : (n.drop (Mv.at_ n x + 1)).length = n.length - (Mv.at_ n x + 1) := by simp
    generalize hh0 : Mv.at_ n x = h at *
    have Hh := Lib.hid hh0; clear hh0
    have HS2 := Lib.hid hS2; have HrA1 := Lib.hid hrA1; have HrT1 := Lib.hid hrT1; have Hl3 := Lib.hid hl3; have Hl4 := Lib.hid hl4; have HA1 := Lib.hid hA1
    have i1 : h ≤ n.length := by omega
    have i2 : (h : Int) ≤ (n.length : Int) := by omega
    have i3 : (0 : Int) ≤ (h : Int) := by omega
    have i4 : h ≤ rc := by omega
    have i5 : (h : Int) ≤ (rc : Int) := by omega
    have i7 : h + 1 ≤ n.length := by omega
    have i8 : (h : Int) + 1 ≤ (n.length : Int) := by omega
    have i9 : (0 : Int) ≤ (h : Int) + 1 := by omega
    have i10 : IntKind.i64.wrap ((h : Int) + 1) = (h : Int) + 1 := wrap_small (by omega) (by omega)
    have i11 : ((h : Int) + 1).toNat = h + 1 := by omega
    clear hS2 hrA1 hrT1 hl3 hl4 hA1 hz
    go_wp2_with fail
    refine HS2.out.mono ?_
    rintro e w3 ⟨rfl, hb3⟩
    have Hb3 := Lib.hid (Hb2.out.trans (hb3.mono Hb2.out.size))
    have Hb23 := Lib.hid hb3
    clear hb3
    have hA1 := HA1.out
    have hA2 := HA2.out
    go_wp2
    go_still_tail 14, (by kernel_rfl)
    change wpList _ _ _ _ _ w3.drew
    have hbD : Below w.heap.size w (w3.drew.alloc (.cells #[.slice (some ⟨ab, ao, none⟩) k pc, .slice A1 (n.length - (h + 1)) (rc - (h + 1)), .slice (some ⟨nb, no, none⟩) h rc, .slice A2 (l.length - (k + 1)) (pc - (k + 1))] 42)) := Hb3.out.drew.alloc Hb3.out.size _
    have hbE : Below w2.heap.size w2 (w3.drew.alloc (.cells #[.slice (some ⟨ab, ao, none⟩) k pc, .slice A1 (n.length - (h + 1)) (rc - (h + 1)), .slice (some ⟨nb, no, none⟩) h rc, .slice A2 (l.length - (k + 1)) (pc - (k + 1))] 42)) := Hb23.out.drew.alloc Hb23.out.size _
    have hcc := concat_at [(some ⟨ab, ao, none⟩, pc, l.take k), (A1, rc - (h + 1), n.drop (h + 1)), (some ⟨nb, no, none⟩, rc, n.take h), (A2, pc - (k + 1), l.drop (k + 1))] (w3.drew.alloc (.cells #[.slice (some ⟨ab, ao, none⟩) k pc, .slice A1 (n.length - (h + 1)) (rc - (h + 1)), .slice (some ⟨nb, no, none⟩) h rc, .slice A2 (l.length - (k + 1)) (pc - (k + 1))] 42)) (some ⟨w3.heap.size, 0, none⟩) 4 (by simp only [List.map_cons, List.map_nil, Part.cell, Hl1.out, Hl2.out, Hl3.out, Hl4.out]; exact (Blk.new w3.drew 42 _).row) rfl (by
      intro p hp
      simp only [List.mem_cons, List.not_mem_nil, or_false] at hp
      rcases hp with rfl | rfl | rfl | rfl
      · exact HrT2.out _ hbD
      · exact HrA1.out.below hbE
      · exact HrT1.out.below hbE
      · exact HrA2.out _ hbD) (by decide) (by simp [Part.len, Part.all]; omega)
    rw [show Part.all [(some ⟨ab, ao, none⟩, pc, l.take k), (A1, rc - (h + 1), n.drop (h + 1)), (some ⟨nb, no, none⟩, rc, n.take h), (A2, pc - (k + 1), l.drop (k + 1))] = l.take k ++ n.drop (h + 1) ++ n.take h ++ l.drop (k + 1) from by simp [Part.all]] at hcc
    obtain ⟨R, hR⟩ : ∃ R, l.take k ++ n.drop (h + 1) ++ n.take h ++ l.drop (k + 1) = R := ⟨_, rfl⟩
    rw [hR] at hcc
    have HR := Lib.hid hR
    have Hcc := Lib.hid hcc
    have HbD := Lib.hid hbD
    clear hcc hbD hbE hR
    go_wp2_with fail
    refine Hcc.out.mono ?_
    rintro e w5 hg5
    have Hg := Lib.hid (hg5.later HbD.out)
    obtain ⟨ua, uc, rfl, _, _, _, _⟩ := hg5
    go_wp2
    go_ret
    rw [Hh.out, HR.out]
    exact Hg.out
  · have hj := hjk hin
    rw [decide_eq_false hin] at HK
    rw [hj]
    clear hjt hjk hj hin
    have hwi := hwb
    have hIi := hIb
    obtain ⟨n, hn⟩ : ∃ n, n = m := ⟨_, rfl⟩
    obtain ⟨rc, hrcq⟩ : ∃ rc, rc = qc := ⟨_, rfl⟩
    obtain ⟨ra, hra⟩ : ∃ ra, ra = qa := ⟨_, rfl⟩
    rw [← hn] at hwi hIi hcb Hhb hm24 ⊢
    rw [← hn, ← hrcq] at HK
    rw [← hra] at HK Hhb ⊢
    rw [← hrcq] at hcb ⊢
    have hrc := hcb
    have hn24 := hm24
    clear hn hrcq hra hb hwb hIb hcb
    go_enter Try.func61, Try.ntmps61
    go_wp2_with fail
    refine (HS.out w (Below.refl _ _)).mono ?_
    rintro e w2 ⟨rfl, hb1⟩
    have hcy1 := Hcy.out w2 hb1
    have Hb2 := Lib.hid hb1
    have Hrow := Lib.hid (Hhb.out.below hb1)
    clear hb1
    go_wp2_with fail
    refine (HK.out w2 Hb2.out).mono ?_
    rintro e w9 ⟨rfl, hw9⟩
    rw [hw9]; clear hw9 w9
    obtain ⟨z, hz, _⟩ := Mv.at_get hIi
    have hk2 := Mv.at_lt.2 hIi
    obtain ⟨nb, no, rfl⟩ := row_some Hrow.out (by omega)
    have hS2 := impl_sideWith (some ⟨nb, no, none⟩) rc n x w2 Hrow.out (by omega) hwi.1
    rw [Mv.idxOf_in hIi] at hS2
    obtain ⟨A1, hA1⟩ : ∃ A1, (if rc = Mv.at_ n x + 1 then some (⟨nb, no, none⟩ : Addr) else some ⟨nb, no + (Mv.at_ n x + 1), none⟩) = A1 := ⟨_, rfl⟩
    have hrA1 := row_cut (m := Mv.at_ n x + 1) Hrow.out (by omega) hrc
    rw [hA1] at hrA1
    have hrT1 := row_take (m := Mv.at_ n x) Hrow.out
    have hl3 : (n.take (Mv.at_ n x)).length = Mv.at_ n x := by simp; omega
    have hl4 : (n.drop (Mv.at_ n x + 1)).length = n.length - (Mv.at_ n x + 1) := by simp
    generalize hh0 : Mv.at_ n x = h at *
    have Hh := Lib.hid hh0; clear hh0
    have HS2 := Lib.hid hS2; have HrA1 := Lib.hid hrA1; have HrT1 := Lib.hid hrT1; have Hl3 := Lib.hid hl3; have Hl4 := Lib.hid hl4; have HA1 := Lib.hid hA1
    have i1 : h ≤ n.length := by omega
    have i2 : (h : Int) ≤ (n.length : Int) := by omega
    have i3 : (0 : Int) ≤ (h : Int) := by omega
    have i4 : h ≤ rc := by omega
    have i5 : (h : Int) ≤ (rc : Int) := by omega
    have i7 : h + 1 ≤ n.length := by omega
    have i8 : (h : Int) + 1 ≤ (n.length : Int) := by omega
    have i9 : (0 : Int) ≤ (h : Int) + 1 := by omega
    have i10 : IntKind.i64.wrap ((h : Int) + 1) = (h : Int) + 1 := wrap_small (by omega) (by omega)
    have i11 : ((h : Int) + 1).toNat = h + 1 := by omega
    clear hS2 hrA1 hrT1 hl3 hl4 hA1 hz
    go_wp2_with fail
    refine HS2.out.mono ?_
    rintro e w3 ⟨rfl, hb3⟩
    have Hb3 := Lib.hid (Hb2.out.trans (hb3.mono Hb2.out.size))
    have Hb23 := Lib.hid hb3
    clear hb3
    have hA1 := HA1.out
    have hA2 := HA2.out
    go_wp2
    go_still_tail 14, (by kernel_rfl)
    change wpList _ _ _ _ _ w3.drew
    have hbD : Below w.heap.size w (w3.drew.alloc (.cells #[.slice (some ⟨ab, ao, none⟩) k pc, .slice A1 (n.length - (h + 1)) (rc - (h + 1)), .slice (some ⟨nb, no, none⟩) h rc, .slice A2 (l.length - (k + 1)) (pc - (k + 1))] 42)) := Hb3.out.drew.alloc Hb3.out.size _
    have hbE : Below w2.heap.size w2 (w3.drew.alloc (.cells #[.slice (some ⟨ab, ao, none⟩) k pc, .slice A1 (n.length - (h + 1)) (rc - (h + 1)), .slice (some ⟨nb, no, none⟩) h rc, .slice A2 (l.length - (k + 1)) (pc - (k + 1))] 42)) := Hb23.out.drew.alloc Hb23.out.size _
    have hcc := concat_at [(some ⟨ab, ao, none⟩, pc, l.take k), (A1, rc - (h + 1), n.drop (h + 1)), (some ⟨nb, no, none⟩, rc, n.take h), (A2, pc - (k + 1), l.drop (k + 1))] (w3.drew.alloc (.cells #[.slice (some ⟨ab, ao, none⟩) k pc, .slice A1 (n.length - (h + 1)) (rc - (h + 1)), .slice (some ⟨nb, no, none⟩) h rc, .slice A2 (l.length - (k + 1)) (pc - (k + 1))] 42)) (some ⟨w3.heap.size, 0, none⟩) 4 (by simp only [List.map_cons, List.map_nil, Part.cell, Hl1.out, Hl2.out, Hl3.out, Hl4.out]; exact (Blk.new w3.drew 42 _).row) rfl (by
      intro p hp
      simp only [List.mem_cons, List.not_mem_nil, or_false] at hp
      rcases hp with rfl | rfl | rfl | rfl
      · exact HrT2.out _ hbD
      · exact HrA1.out.below hbE
      · exact HrT1.out.below hbE
      · exact HrA2.out _ hbD) (by decide) (by simp [Part.len, Part.all]; omega)
    rw [show Part.all [(some ⟨ab, ao, none⟩, pc, l.take k), (A1, rc - (h + 1), n.drop (h + 1)), (some ⟨nb, no, none⟩, rc, n.take h), (A2, pc - (k + 1), l.drop (k + 1))] = l.take k ++ n.drop (h + 1) ++ n.take h ++ l.drop (k + 1) from by simp [Part.all]] at hcc
    obtain ⟨R, hR⟩ : ∃ R, l.take k ++ n.drop (h + 1) ++ n.take h ++ l.drop (k + 1) = R := ⟨_, rfl⟩
    rw [hR] at hcc
    have HR := Lib.hid hR
    have Hcc := Lib.hid hcc
    have HbD := Lib.hid hbD
    clear hcc hbD hbE hR
    go_wp2_with fail
    refine Hcc.out.mono ?_
    rintro e w5 hg5
    have Hg := Lib.hid (hg5.later HbD.out)
    obtain ⟨ua, uc, rfl, _, _, _, _⟩ := hg5
    go_wp2
    go_ret
    rw [Hh.out, HR.out]
    exact Hg.out
set_option maxRecDepth 10000 in
set_option maxHeartbeats 2000000 in
theorem lib_Delete (g cap q lo : Nat) (L : List (List Int)) (w : World) (h : Held w lo (.slice (some ⟨g, 0, none⟩) L.length cap) L) (hq : q < L.length) (hn : L.length ≤ 1000) :
    Calls Try.prog 62 #[.slice (some ⟨g, 0, none⟩) L.length cap, .int .i64 (q : Int), .int .i64 ((q : Int) + 1)] w fun e w' => e = .returned (.slice (some ⟨g, 0, none⟩) (L.length - 1) cap) ∧ Held w' lo (.slice (some ⟨g, 0, none⟩) (L.length - 1) cap) (L.eraseIdx q) ∧ Below lo w w' := by
  obtain ⟨hs, hm, hown, hin, hap⟩ := h
  have hfin := fun k => Held.erased (m := k) hm hown hin hap rfl hq (.slice none 0 0)
  have hsl : hs.length = L.length := by rw [← hm]; simp
  obtain ⟨av, cv, hav⟩ := own_len hown
  cases hav
  have hcells : ∀ j, j < L.length → w.cell? ⟨g, j, none⟩ = (hdCells hs)[j]? := fun j hj => hown.cellAt j (by omega)
  have hfroz := hown.frozenAt
  obtain ⟨_, _, hcw, hcap, hcm⟩ := own_form hown (by omega)
  cases hcw
  generalize hnl : L.length = n at *
  obtain ⟨i0, hi0, hz0, hz1, hz2⟩ := info_ints_parts
  have Hi0 := Lib.hid hi0; have Hz1 := Lib.hid hz1
  obtain ⟨A, hA, hnews⟩ : ∃ A : Addr, (if cap = q + 1 then some (⟨g, 0, none⟩ : Addr) else some ⟨g, q + 1, none⟩) = some A ∧ Hid (∀ j u, ((hdCells hs).drop (q + 1))[j]? = some u → w.drew.cell? (A.add j) = some u) := by
    by_cases h : cap = q + 1
    · refine ⟨⟨g, 0, none⟩, by simp [h], fun j u hu => ?_⟩
      rw [List.drop_eq_nil_of_le (by rw [hdCells_len]; omega)] at hu
      simp at hu
    · refine ⟨⟨g, q + 1, none⟩, by simp [h], fun j u hu => ?_⟩
      rw [List.getElem?_drop] at hu
      have hj : q + 1 + j < n := by
        have := (List.getElem?_eq_some_iff.1 hu).1
        rw [hdCells_len] at this; omega
      rw [show (⟨g, q + 1, none⟩ : Addr).add j = ⟨g, q + 1 + j, none⟩ from by unfold Addr.add; split <;> simp_all]
      show w.cell? _ = _
      rw [hcells _ hj]; exact hu
  have Hnews : Hid (((hdCells hs).drop (q + 1)).length = (n - (q + 1)) * 1) := Lib.hid (by rw [List.length_drop, hdCells_len]; omega)
  have Hone : Hid (∀ u ∈ (hdCells hs).drop (q + 1), u.oneCell' = true) := Lib.hid (fun u hu => hdCells_one hs u (List.mem_of_mem_drop hu))
  have Hspare : Hid (∀ j, j < ((hdCells hs).drop (q + 1)).length → (w.drew.cell? ⟨g, 0 + q * 1 + j, none⟩).isSome = true ∧ w.drew.frozen? ⟨g, 0 + q * 1 + j, none⟩ = false) := Lib.hid (fun j hj => by
    rw [List.length_drop, hdCells_len] at hj
    refine ⟨?_, hfroz _⟩
    show (w.cell? _).isSome = true
    rw [hcells _ (by omega), List.getElem?_eq_getElem (by rw [hdCells_len]; omega)]; rfl)
  obtain ⟨cur, hcur, hcsz⟩ : ∃ cur : Array Value, Blk w g 42 cur ∧ n ≤ cur.size := by
    rcases hown.2 with ⟨e, _⟩ | ⟨g', cap', cur, e, _, hh, hle, _, hcs, _⟩
    · cases e
    · cases e; exact ⟨cur, hh, by rw [hcs]; omega⟩
  have Hblk := Lib.hid (hcur.drew.putAll ((hdCells hs).drop (q + 1)) q); have Hcsz := Lib.hid hcsz
  have Hfin := Lib.hid hfin; have Hcells := Lib.hid hcells; have Hfroz := Lib.hid hfroz; have Hsl := Lib.hid hsl
  have k1 : q ≤ n := by omega
  have k2 : q + 1 ≤ n := by omega
  have k3 : (q : Int) + 1 ≤ (n : Int) := by omega
  have k4 : (0 : Int) ≤ (q : Int) + 1 := by omega
  have k5 : IntKind.i64.wrap ((q : Int) + 1) = (q : Int) + 1 := wrap_small (by omega) (by omega)
  have k6 : ((q : Int) + 1).toNat = q + 1 := by omega
  have k7 : (q : Int) ≤ (q : Int) + 1 := by omega
  have k8 : (n : Int) ≤ (cap : Int) := by omega
  have k9 : ¬ cap = q := by omega
  have k10 : (q : Int) ≤ (n : Int) := by omega
  have k11 : (q : Int) ≤ (cap : Int) := by omega
  have k12 : q ≤ cap := by omega
  have k13 : ((q : Int) == (q : Int) + 1) = false := beq_eq_false_iff_ne.2 (by omega)
  have k14 : (q : Int) + 1 ≤ (cap : Int) := by omega
  have hroom : q + (n - (q + 1)) ≤ cap := by omega
  have Hn : Hid (L.length = n) := Lib.hid hnl
  clear hcur hcsz hfin hcells hfroz hsl hown hin hap hm hnl hi0 hz0 hz1 hz2
  go_enter Try.func62, Try.ntmps62
  go_wp2
  go_region_law (refine step_append_room rfl (.tmp 22) (.tmp 25) 24 rfl 42 i0 1 Try.underlying24 Hi0.out Hz1.out g 0 q cap (by rfl) A (n - (q + 1)) _ ((hdCells hs).drop (q + 1)) (by rfl) Hnews.out hnews.out Hone.out hroom Hspare.out ?_)
  have hcl : ∀ ty, (Builtin.clear_ #[24] ty #[.slice (some ⟨g, q + (n - (q + 1)), none⟩) (n - (q + (n - (q + 1)))) (cap - (q + (n - (q + 1))))]).run Try.prog (w.drew.setCells g q ((hdCells hs).drop (q + 1))) = .ok (.tuple #[]) ((w.drew.setCells g q ((hdCells hs).drop (q + 1))).setCells g (q + (n - (q + 1))) (List.replicate (n - (q + (n - (q + 1)))) (.slice none 0 0))) :=
    fun ty => Lib.run_clear_slice _ _ _ ty _ Try.underlying24 zero_ints rfl rfl g (q + (n - (q + 1))) _ _ (by omega) (fun j hj => by
      obtain rfl : j = 0 := by omega
      have hk := Hblk.out
      rw [hk.cell]
      rw [Array.getElem?_eq_getElem (by rw [putAll_size]; have := Hcsz.out; omega)]; rfl) (fun j hj => by rw [Hblk.out.frozen])
  have Hcl := Lib.hid hcl
  clear hcl
  all_goals
    have hcl := Hcl.out
    go_wp2
    go_ret
    have e1 : q + (n - (q + 1)) = n - 1 := by omega
    have e2 : n - (n - 1) = 1 := by omega
    have hf := Hfin.out 1
    refine ⟨?_, ?_⟩
    · show _ = Ending.returned (.slice (some ⟨g, 0, none⟩) (n - 1) cap)
      rw [← e1]; rfl
    · rw [e1, e2]
      exact hf
end Go.Proofs.Ytlfniodocaiijaa
