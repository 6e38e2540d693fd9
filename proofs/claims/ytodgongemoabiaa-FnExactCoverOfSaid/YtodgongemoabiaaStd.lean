/-
  Standard gluings: what the document says, and the walks of the program's and the model's StandardGluing.
-/
import Derived.Test.YtodgongemoabiaaBase
import Derived.Test.YtodgongemoabiaaSlice
import Derived.Test.YtodgongemoabiaaIntRow
import Derived.Test.YtodgongemoabiaaInts
import Derived.Test.YtodgongemoabiaaOwn
import Derived.Test.YtodgongemoabiaaWord
import Derived.Test.YtodgongemoabiaaGrid
import Derived.Test.YtodgongemoabiaaGridRows
import Derived.Test.YtodgongemoabiaaGlue
import Derived.Test.YtodgongemoabiaaIsGluing
import Derived.Test.YtodgongemoabiaaSurf
import Derived.Test.YtodgongemoabiaaSurfI
import Derived.Test.YtodgongemoabiaaSurfSum
import Derived.Laws.Rows
namespace Go.Proofs.Ytodgongemoabiaa
open Go.RowKit

theorem ints_one (l : List Int) : ∀ u ∈ intCells l, u.oneCell' = true := by
  intro u hu
  simp only [intCells, List.mem_map] at hu
  obtain ⟨x, _, rfl⟩ := hu
  rfl
theorem grid_one {w : World} {N c n K : Nat} {a : Option Addr} {l : List Int} (hf : Fresh w N 3 a (intCells l)) (hN : N ≤ w.heap.size) (hn : l.length = n) (hK : w.heap.size = K) (hlc : n ≤ c) :
    GridIn (w.alloc (.cells #[.slice a n c] 42)) N (w.alloc (.cells #[.slice a n c] 42)).heap.size (some ⟨K, 0, none⟩) [l] := by
  subst hn; subst hK
  rw [show (w.alloc (.cells #[.slice a l.length c] 42)).heap.size = w.heap.size + 1 from by simp]
  exact grid_single hf hN hlc
theorem int_append (l m : List Int) : intCells (l ++ m) = intCells l ++ intCells m := by simp [intCells]
namespace Surf
/-- The sides of the first i handles; of i crosscaps and of i borders, whose first letter is s. -/
def hs (i : Nat) : List Int := (List.range i).flatMap fun (k : Nat) => [1 + 2 * (k : Int), 1 + 2 * (k : Int) + 1, -(1 + 2 * (k : Int)), -(1 + 2 * (k : Int)) - 1]
def cs (s : Int) (i : Nat) : List Int := (List.range i).flatMap fun (k : Nat) => [s + 1 * (k : Int), s + 1 * (k : Int)]
def bs (s : Int) (i : Nat) : List Int := (List.range i).flatMap fun (k : Nat) => [s + 2 * (k : Int), s + 2 * (k : Int) + 1, -(s + 2 * (k : Int))]
theorem hs_snoc (i : Nat) : hs (i + 1) = hs i ++ [1 + 2 * (i : Int), 1 + 2 * (i : Int) + 1, -(1 + 2 * (i : Int)), -(1 + 2 * (i : Int)) - 1] := by unfold hs; rw [List.range_succ, List.flatMap_append]; simp
theorem cs_snoc (s : Int) (i : Nat) : cs s (i + 1) = cs s i ++ [s + 1 * (i : Int), s + 1 * (i : Int)] := by unfold cs; rw [List.range_succ, List.flatMap_append]; simp
theorem bs_snoc (s : Int) (i : Nat) : bs s (i + 1) = bs s i ++ [s + 2 * (i : Int), s + 2 * (i : Int) + 1, -(s + 2 * (i : Int))] := by unfold bs; rw [List.range_succ, List.flatMap_append]; simp
theorem hs_len (i : Nat) : (hs i).length = 4 * i := by
  induction i with
  | zero => rfl
  | succ i ih => rw [hs_snoc, List.length_append, ih]; simp; omega
theorem cs_len (s : Int) (i : Nat) : (cs s i).length = 2 * i := by
  induction i with
  | zero => rfl
  | succ i ih => rw [cs_snoc, List.length_append, ih]; simp; omega
theorem bs_len (s : Int) (i : Nat) : (bs s i).length = 3 * i := by
  induction i with
  | zero => rfl
  | succ i ih => rw [bs_snoc, List.length_append, ih]; simp; omega
def poly (h c b : Nat) : List Int := hs h ++ cs (1 + 2 * (h : Int)) c ++ bs (1 + 2 * (h : Int) + (c : Int)) b
theorem poly_len (h c b : Nat) : (poly h c b).length = 4 * h + 2 * c + 3 * b := by unfold poly; rw [List.length_append, List.length_append, hs_len, cs_len, bs_len]
def side (h c b : Nat) : List Int := if h = 0 ∧ c = 0 ∧ b = 0 then [1, -1] else poly h c b
/-- The standard gluing, if the letters are enough. -/
def stdOk (x y z : Int) : Prop := Is x y z ∧ 2 * x + y + 2 * z ≤ 8
instance (x y z : Int) : Decidable (stdOk x y z) := by unfold stdOk; exact inferInstance
def std (x y z : Int) : List (List Int) := if stdOk x y z then [side x.toNat y.toNat z.toNat] else []
theorem std_tot (x y z : Int) : tot (std x y z) ≤ 1000000 := by
  unfold std
  by_cases h : stdOk x y z
  · rw [if_pos h]
    obtain ⟨⟨⟨_, _⟩, ⟨_, _⟩, ⟨_, _⟩, _⟩, h8⟩ := h
    have hl : (side x.toNat y.toNat z.toNat).length ≤ 100 := by
      unfold side; split
      · simp
      · rw [poly_len]; omega
    unfold tot; rw [sumLen_flat]
    simp only [List.flatten_cons, List.flatten_nil, List.append_nil, List.length_singleton]
    omega
  · rw [if_neg h]; decide
end Surf

set_option maxRecDepth 10000 in
set_option maxHeartbeats 4000000 in
theorem impl_standardPolygon (h c b : Nat) (w : World) (hh : h ≤ 20) (hc : c ≤ 20) (hb : b ≤ 20) :
    Calls Try.prog 193 #[.agg #[.int .i64 (h : Int), .int .i64 (c : Int), .int .i64 (b : Int)]] w fun e w' => Gives w (Surf.poly h c b) e w' := by
  obtain ⟨i0, hi0, hz0, hz1, hz2⟩ := info_int_parts
  have Hi0 := Lib.hid hi0; have Hz0 := Lib.hid hz0; have Hz1 := Lib.hid hz1; have Hz2 := Lib.hid hz2
  clear hi0 hz0 hz1 hz2
  generalize hN : w.heap.size = N at *
  have HN := Lib.hid hN
  go_enter Try.func193, Try.ntmps193
  obtain ⟨hA, hl⟩ := Blk.of1 hN (Below.refl (N + 1) (w.alloc (.cells #[.int .i64 (h : Int), .int .i64 (c : Int), .int .i64 (b : Int)] 88))) rfl
  have HA := Lib.hid hA; have Hl := Lib.hid hl; clear hA hl
  go_wp2
  go_loopw [3, 4, 7] (fun ov xv iv wr => ∃ i : Nat, ∃ X : Int, i ≤ h ∧ iv = .int .i64 (i : Int) ∧ xv = .int .i64 X ∧ X = 1 + 2 * (i : Int) ∧ Below N w wr ∧ Blk wr N 88 #[.int .i64 (h : Int), .int .i64 (c : Int), .int .i64 (b : Int)] ∧ wr.ownsRow (N + 1) 3 1 ov (4 * i) (intCells (Surf.hs i))) (fun _ _ iv _ => (h - intOf iv).toNat)
  case atStart => exact ⟨0, 1, Nat.zero_le _, rfl, rfl, rfl, Hl.out, HA.out, ⟨by simp [intCells, Surf.hs], Or.inl ⟨rfl, by simp [intCells, Surf.hs]⟩⟩⟩
  case round =>
    obtain ⟨i, X, hi, rfl, rfl, hX, hb, hbox, hown⟩ := hrel
    have hNle : N + 1 ≤ wr.heap.size := hbox.lt
    obtain ⟨_, _, _, _, _, _⟩ := hbox.six
    have Hbox := Lib.hid hbox; clear hbox
    by_cases hlt : i < h
    · have Hst := Lib.hid (Surf.hs_snoc i)
      have dlt : decide ((i : Int) < (h : Int)) = true := decide_eq_true (by omega)
      have hx0 : 1 ≤ X := by omega
      have hx1 : X ≤ 1000 := by omega
      have HX := Lib.hid hX
      have Hb := Lib.hid hb; have Hlt := Lib.hid hlt; clear hb hlt
      have hc1 : (4 * i) + 4 ≤ maxLen := by unfold maxLen; omega
      have hc2 : ((4 * i) + 4) * 8 ≤ 140737488355328 := by omega
      have Hln := Lib.hid (show (4 * i) + 4 = (4 * (i + 1)) by omega)
      clear hX
      obtain ⟨av, cv, rfl⟩ := own_len hown
      go_wp2_with (at_builtin; refine append_lits [.int .i64 X, .int .i64 (X + 1), .int .i64 (-X), .int .i64 (-X - 1)] 4 rfl rfl (.tmp 9) (.tmp 18) 42 rfl (N + 1) 3 i0 _ 8 Try.underlying42 Hi0.out Hz0.out Hz1.out Hz2.out (by rfl) _ _ _ rfl hown (ints_one [X, X + 1, -X, -X - 1]) _ rfl hc1 hc2 hNle ?_; intro v1 w1 hown1 hg1)
      go_roundw
      case rel =>
        refine ⟨i + 1, X + 2, by have := Hlt.out; omega, by go_num, rfl, ?_, Below.grown (Hb.out.alloc (by omega) _) hg1 (by simp; omega) (fun k hk => by have := (hown.lt k hk).1; omega), (Hbox.out.alloc _).grown hg1 (fun e => by have := (hown.lt _ e.symm).1; omega), ?_⟩
        · have := HX.out; rw [this, Int.natCast_add, Int.mul_add]; omega
        · have hX := HX.out; rw [Hst.out, ← Hln.out, int_append]; subst hX; exact hown1
      case measure => have := Hlt.out; simp [intOf] <;> omega
    · have hin : h = i := by omega
      subst hin
      have dlt : decide ((h : Int) < (h : Int)) = false := decide_eq_false (by omega)
      clear hlt hi
      have Hown := Lib.hid hown; have Hb := Lib.hid hb; clear hown hb
      have HX := Lib.hid hX; clear hX
      go_wp2
      go_loopw [3, 4, 25] (fun ov xv iv wr => ∃ i : Nat, ∃ X : Int, i ≤ c ∧ iv = .int .i64 (i : Int) ∧ xv = .int .i64 X ∧ X = (1 + 2 * (h : Int)) + 1 * (i : Int) ∧ Below N w wr ∧ Blk wr N 88 #[.int .i64 (h : Int), .int .i64 (c : Int), .int .i64 (b : Int)] ∧ wr.ownsRow (N + 1) 3 1 ov (4 * h + 2 * i) (intCells (Surf.hs h ++ Surf.cs (1 + 2 * (h : Int)) i))) (fun _ _ iv _ => (c - intOf iv).toNat)
      case atStart => exact ⟨0, X, Nat.zero_le _, rfl, rfl, by have := HX.out; omega, Hb.out, Hbox.out, by simpa [Surf.cs] using Hown.out⟩
      case round =>
        obtain ⟨i, X, hi, rfl, rfl, hX, hb, hbox, hown⟩ := hrel
        have hNle : N + 1 ≤ wr.heap.size := hbox.lt
        obtain ⟨_, _, _, _, _, _⟩ := hbox.six
        have Hbox := Lib.hid hbox; clear hbox
        by_cases hlt : i < c
        · have Hst := Lib.hid (Surf.cs_snoc (1 + 2 * (h : Int)) i)
          have dlt : decide ((i : Int) < (c : Int)) = true := decide_eq_true (by omega)
          have hx0 : 1 ≤ X := by omega
          have hx1 : X ≤ 1000 := by omega
          have HX := Lib.hid hX
          have Hb := Lib.hid hb; have Hlt := Lib.hid hlt; clear hb hlt
          have hc1 : (4 * h + 2 * i) + 2 ≤ maxLen := by unfold maxLen; omega
          have hc2 : ((4 * h + 2 * i) + 2) * 8 ≤ 140737488355328 := by omega
          have Hln := Lib.hid (show (4 * h + 2 * i) + 2 = (4 * h + 2 * (i + 1)) by omega)
          clear hX
          obtain ⟨av, cv, rfl⟩ := own_len hown
          go_wp2_with (at_builtin; refine append_lits [.int .i64 X, .int .i64 X] 2 rfl rfl (.tmp 27) (.tmp 30) 42 rfl (N + 1) 3 i0 _ 8 Try.underlying42 Hi0.out Hz0.out Hz1.out Hz2.out (by rfl) _ _ _ rfl hown (ints_one [X, X]) _ rfl hc1 hc2 hNle ?_; intro v1 w1 hown1 hg1)
          go_roundw
          case rel =>
            refine ⟨i + 1, X + 1, by have := Hlt.out; omega, by go_num, rfl, ?_, Below.grown (Hb.out.alloc (by omega) _) hg1 (by simp; omega) (fun k hk => by have := (hown.lt k hk).1; omega), (Hbox.out.alloc _).grown hg1 (fun e => by have := (hown.lt _ e.symm).1; omega), ?_⟩
            · have := HX.out; rw [this, Int.natCast_add, Int.mul_add]; omega
            · have hX := HX.out; rw [Hst.out, ← List.append_assoc, ← Hln.out, int_append]; subst hX; exact hown1
          case measure => have := Hlt.out; simp [intOf] <;> omega
        · have hin : c = i := by omega
          subst hin
          have dlt : decide ((c : Int) < (c : Int)) = false := decide_eq_false (by omega)
          clear hlt hi
          have Hown := Lib.hid hown; have Hb := Lib.hid hb; clear hown hb
          have HX := Lib.hid hX; clear hX
          go_wp2
          go_loopw [3, 4, 37] (fun ov xv iv wr => ∃ i : Nat, ∃ X : Int, i ≤ b ∧ iv = .int .i64 (i : Int) ∧ xv = .int .i64 X ∧ X = (1 + 2 * (h : Int) + (c : Int)) + 2 * (i : Int) ∧ Below N w wr ∧ Blk wr N 88 #[.int .i64 (h : Int), .int .i64 (c : Int), .int .i64 (b : Int)] ∧ wr.ownsRow (N + 1) 3 1 ov (4 * h + 2 * c + 3 * i) (intCells (Surf.hs h ++ Surf.cs (1 + 2 * (h : Int)) c ++ Surf.bs (1 + 2 * (h : Int) + (c : Int)) i))) (fun _ _ iv _ => (b - intOf iv).toNat)
          case atStart => exact ⟨0, X, Nat.zero_le _, rfl, rfl, by have := HX.out; omega, Hb.out, Hbox.out, by simpa [Surf.bs] using Hown.out⟩
          case round =>
            obtain ⟨i, X, hi, rfl, rfl, hX, hb, hbox, hown⟩ := hrel
            have hNle : N + 1 ≤ wr.heap.size := hbox.lt
            obtain ⟨_, _, _, _, _, _⟩ := hbox.six
            have Hbox := Lib.hid hbox; clear hbox
            by_cases hlt : i < b
            · have Hst := Lib.hid (Surf.bs_snoc (1 + 2 * (h : Int) + (c : Int)) i)
              have dlt : decide ((i : Int) < (b : Int)) = true := decide_eq_true (by omega)
              have hx0 : 1 ≤ X := by omega
              have hx1 : X ≤ 1000 := by omega
              have HX := Lib.hid hX
              have Hb := Lib.hid hb; have Hlt := Lib.hid hlt; clear hb hlt
              have hc1 : (4 * h + 2 * c + 3 * i) + 3 ≤ maxLen := by unfold maxLen; omega
              have hc2 : ((4 * h + 2 * c + 3 * i) + 3) * 8 ≤ 140737488355328 := by omega
              have Hln := Lib.hid (show (4 * h + 2 * c + 3 * i) + 3 = (4 * h + 2 * c + 3 * (i + 1)) by omega)
              clear hX
              obtain ⟨av, cv, rfl⟩ := own_len hown
              go_wp2_with (at_builtin; refine append_lits [.int .i64 X, .int .i64 (X + 1), .int .i64 (-X)] 3 rfl rfl (.tmp 39) (.tmp 45) 42 rfl (N + 1) 3 i0 _ 8 Try.underlying42 Hi0.out Hz0.out Hz1.out Hz2.out (by rfl) _ _ _ rfl hown (ints_one [X, X + 1, -X]) _ rfl hc1 hc2 hNle ?_; intro v1 w1 hown1 hg1)
              go_roundw
              case rel =>
                refine ⟨i + 1, X + 2, by have := Hlt.out; omega, by go_num, rfl, ?_, Below.grown (Hb.out.alloc (by omega) _) hg1 (by simp; omega) (fun k hk => by have := (hown.lt k hk).1; omega), (Hbox.out.alloc _).grown hg1 (fun e => by have := (hown.lt _ e.symm).1; omega), ?_⟩
                · have := HX.out; rw [this, Int.natCast_add, Int.mul_add]; omega
                · have hX := HX.out; rw [Hst.out, ← List.append_assoc, ← Hln.out, int_append]; subst hX; exact hown1
              case measure => have := Hlt.out; simp [intOf] <;> omega
            · have hin : b = i := by omega
              subst hin
              have dlt : decide ((b : Int) < (b : Int)) = false := decide_eq_false (by omega)
              clear hlt hi
              have Hown := Lib.hid hown; have Hb := Lib.hid hb
              have Hg := Lib.hid (own_gives (w := w) (l := Surf.poly h c b) (own_mono (base' := w.heap.size) (show wr.ownsRow (N + 1) 3 1 _ (4 * h + 2 * c + 3 * b) (intCells (Surf.poly h c b)) from by unfold Surf.poly; exact Hown.out) (by have := HN.out; omega)) (Surf.poly_len h c b) (by rw [HN.out]; exact Hb.out))
              clear hown hb
              go_wp2
              go_ret
              exact Hg.out
theorem impl_standardPolygon' (x y z : Int) (w : World) (hs : Surf.Is x y z) :
    Calls Try.prog 193 #[.agg #[.int .i64 x, .int .i64 y, .int .i64 z]] w fun e w' => Gives w (Surf.poly x.toNat y.toNat z.toNat) e w' := by
  obtain ⟨⟨h1, h2⟩, ⟨h3, h4⟩, ⟨h5, h6⟩, _⟩ := hs
  have h := impl_standardPolygon x.toNat y.toNat z.toNat w (by omega) (by omega) (by omega)
  rwa [Int.toNat_of_nonneg h1, Int.toNat_of_nonneg h3, Int.toNat_of_nonneg h5] at h
end Go.Proofs.Ytodgongemoabiaa
