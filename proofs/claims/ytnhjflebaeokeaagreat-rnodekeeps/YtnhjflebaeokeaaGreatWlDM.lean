import Derived.Test.YtnhjflebaeokeaaGreatFrameMathM
import Derived.Maps.AppendAt
import Derived.ArgAppend
import Derived.Shelf.Strings.Builder1
import Derived.Shelf.SlicesG.Clone
import Derived.Shelf.SlGeneric
import Derived.Test.YtnhjflebaeokeaaGreatProg
import Derived.Test.YtnhjflebaeokeaaGreatStrM
import Derived.WalkKit
import Derived.Lib.Builder
import Derived.Test.YtnhjflebaeokeaaGreatDkAttM
section
/- Plain mathematics of files of frames: what is read from the front on, and where that ends. -/
namespace Go.Proofs.YtnhjflebaeokeaaGreat
/-- The frames of texts, one behind the other. -/
def frs (T : List (List UInt8)) : List UInt8 := T.flatMap frameB
theorem frs_nil : frs [] = [] := rfl
theorem frs_cons (x : List UInt8) (T : List (List UInt8)) : frs (x :: T) = frameB x ++ frs T := rfl
theorem frs_append (S T : List (List UInt8)) : frs (S ++ T) = frs S ++ frs T := by unfold frs; rw [List.flatMap_append]
theorem frs_one (x : List UInt8) : frs [x] = frameB x := by rw [frs_cons, frs_nil, List.append_nil]
/-- The first frame of bytes, and how long it is. -/
def unf1 (l : List UInt8) : Option (List UInt8 × Nat) := if (unfr (str l) 0).2.2 = 0 then some ((unfr (str l) 0).1.data.toList, (unfr (str l) 0).2.1) else none
theorem frameB_len (x : List UInt8) : (frameB x).length = (numB x.length).length + x.length + 4 := by
  unfold frameB textB
  simp [crc4]
  omega
theorem frameB_pos (x : List UInt8) : 4 + x.length ≤ (frameB x).length := by rw [frameB_len]; omega
theorem frameB_le (x : List UInt8) (h : x.length < 18446744073709551616) : (frameB x).length ≤ x.length + 14 := by
  have := numB_len10 h
  rw [frameB_len]
  omega
theorem unf1_frame (x m : List UInt8) (h : x.length < 18446744073709551616) : unf1 (frameB x ++ m) = some (x, (frameB x).length) := by
  have e := unfr_frame (str x) m h
  rw [str_list] at e
  unfold unf1
  rw [e, if_pos rfl, str_list]
theorem unf1_some {l x : List UInt8} {n : Nat} (h : unf1 l = some (x, n)) : n ≤ l.length ∧ l.take n = frameB x ∧ 0 < n := by
  unfold unf1 at h
  split at h
  · rename_i e
    obtain ⟨⟨y, a, z⟩, hq⟩ : ∃ q, unfr (str l) 0 = q := ⟨_, rfl⟩
    rw [hq] at h e
    simp only [Option.some.injEq, Prod.mk.injEq] at h e
    obtain ⟨rfl, rfl⟩ := h
    subst e
    obtain ⟨h1, h2⟩ := unfr_only hq
    rw [str_size] at h1
    rw [str_list] at h2
    refine ⟨h1, h2, ?_⟩
    have h3 := congrArg List.length h2
    rw [List.length_take, frameB_len] at h3
    omega
  · cases h
theorem unf1_nil : unf1 [] = none := by
  cases h : unf1 [] with
  | none => rfl
  | some q =>
    obtain ⟨x, n⟩ := q
    have := unf1_some h
    simp at this
    omega
def unfL : Nat → List UInt8 → List (List UInt8) × Nat
  | 0, _ => ([], 0)
  | f + 1, l => match unf1 l with
    | none => ([], 0)
    | some q => (q.1 :: (unfL f (l.drop q.2)).1, q.2 + (unfL f (l.drop q.2)).2)
/-- The texts of the frames from the front on that are whole and right, and the place behind them. -/
def unfV (l : List UInt8) : List (List UInt8) × Nat := unfL (l.length + 1) l
theorem unfL_two (f g : Nat) (l : List UInt8) (hf : l.length < f) (hg : l.length < g) : unfL f l = unfL g l := by
  induction f generalizing g l with
  | zero => omega
  | succ f ih =>
    cases g with
    | zero => omega
    | succ g =>
      unfold unfL
      cases h : unf1 l with
      | none => rfl
      | some q =>
        obtain ⟨x, n⟩ := q
        have h1 := unf1_some h
        have e := ih g (l.drop n) (by simp; omega) (by simp; omega)
        simp only [e]
theorem unfV_none {l : List UInt8} (h : unf1 l = none) : unfV l = ([], 0) := by
  unfold unfV unfL
  rw [h]
theorem unfV_some {l x : List UInt8} {n : Nat} (h : unf1 l = some (x, n)) : unfV l = (x :: (unfV (l.drop n)).1, n + (unfV (l.drop n)).2) := by
  have h1 := unf1_some h
  have e : unfL l.length (l.drop n) = unfV (l.drop n) := unfL_two _ _ _ (by simp; omega) (by omega)
  unfold unfV at e ⊢
  rw [unfL]
  rw [h]
  simp only [e]
theorem unfV_frs (T : List (List UInt8)) (m : List UInt8) (hT : ∀ x ∈ T, x.length < 18446744073709551616) : unfV (frs T ++ m) = (T ++ (unfV m).1, (frs T).length + (unfV m).2) := by
  induction T with
  | nil => simp [frs_nil]
  | cons x T ih =>
    rw [frs_cons, List.append_assoc, unfV_some (unf1_frame x _ (hT x (by simp))), List.drop_left, ih (fun y hy => hT y (List.mem_cons_of_mem _ hy))]
    simp
    omega
theorem unfV_all (T : List (List UInt8)) (hT : ∀ x ∈ T, x.length < 18446744073709551616) : unfV (frs T) = (T, (frs T).length) := by
  have h := unfV_frs T [] hT
  rw [List.append_nil, unfV_none unf1_nil] at h
  simpa using h
theorem unfL_is (f : Nat) (l : List UInt8) : (unfL f l).2 ≤ l.length ∧ l.take (unfL f l).2 = frs (unfL f l).1 := by
  induction f generalizing l with
  | zero => simp [unfL, frs_nil]
  | succ f ih =>
    unfold unfL
    cases h : unf1 l with
    | none => simp [frs_nil]
    | some q =>
      obtain ⟨x, n⟩ := q
      obtain ⟨h1, h2, h3⟩ := unf1_some h
      obtain ⟨i1, i2⟩ := ih (l.drop n)
      simp only
      refine ⟨by simp at i1; omega, ?_⟩
      rw [frs_cons, ← h2, ← i2, List.take_add]
theorem unfV_is (l : List UInt8) : (unfV l).2 ≤ l.length ∧ l.take (unfV l).2 = frs (unfV l).1 := unfL_is _ l
theorem len_frs (T : List (List UInt8)) : 4 * T.length ≤ (frs T).length := by
  induction T with
  | nil => simp
  | cons y T ih =>
    rw [frs_cons, List.length_append]
    have := frameB_pos y
    simp only [List.length_cons]
    omega
/-- Frames at a place are those of what lies behind it. -/
theorem unfr_shift (l : List UInt8) (a : Nat) : (unf1 (l.drop a) = none → ¬ (unfr (str l) a).2.2 = 0) ∧ ∀ x n, unf1 (l.drop a) = some (x, n) → unfr (str l) a = (str x, a + n, 0) := by
  have e0 : (str l).extract a (str l).size = str (l.drop a) := ba_eq (by rw [ext_list, str_list, str_list, str_size, List.take_of_length_le (by simp)])
  have e1 : (str (l.drop a)).extract 0 (str (l.drop a)).size = str (l.drop a) := ext_full _
  have e2 : ∀ k, (str l).extract a (a + k) = (str (l.drop a)).extract 0 (0 + k) := fun k => ba_eq (by rw [ext_list, ext_list, str_list, str_list, Nat.add_sub_cancel_left, Nat.zero_add, Nat.sub_zero, List.drop_zero])
  obtain ⟨⟨y, a1, z1⟩, h1⟩ : ∃ q, rdText (str (l.drop a)) 0 0 = q := ⟨_, rfl⟩
  obtain ⟨⟨q, a2, z2⟩, h2⟩ : ∃ q, rdBytes (str (l.drop a)) a1 z1 4 = q := ⟨_, rfl⟩
  have g1 : rdText ((str l).extract a (str l).size) 0 0 = (y, a1, z1) := by rw [e0]; exact h1
  have g2 : rdBytes ((str l).extract a (str l).size) a1 z1 4 = (q, a2, z2) := by rw [e0]; exact h2
  have k1 : rdText ((str (l.drop a)).extract 0 (str (l.drop a)).size) 0 0 = (y, a1, z1) := by rw [e1]; exact h1
  have k2 : rdBytes ((str (l.drop a)).extract 0 (str (l.drop a)).size) a1 z1 4 = (q, a2, z2) := by rw [e1]; exact h2
  by_cases hz : z2 = 0
  · subst hz
    cases hq : (q.toList == (str (fourB (crcN ((str l).extract a (a + a1)).data.toList))).toList) with
    | false =>
      have u1 := unfr_no g1 g2 hq
      have u2 := unfr_no k1 k2 (by rw [← e2]; exact hq)
      refine ⟨fun _ => by rw [u1]; simp, fun x n h => ?_⟩
      unfold unf1 at h
      rw [u2] at h
      simp at h
    | true =>
      have u1 := unfr_ok g1 g2 hq
      have u2 := unfr_ok k1 k2 (by rw [← e2]; exact hq)
      refine ⟨fun h => ?_, fun x n h => ?_⟩
      · unfold unf1 at h
        rw [u2] at h
        simp at h
      · unfold unf1 at h
        rw [u2] at h
        simp only [if_true, Option.some.injEq, Prod.mk.injEq] at h
        obtain ⟨rfl, rfl⟩ := h
        rw [u1, str_data, Nat.zero_add]
  · have u1 := unfr_err g1 g2 hz
    have u2 := unfr_err k1 k2 hz
    refine ⟨fun _ => by rw [u1]; exact hz, fun x n h => ?_⟩
    unfold unf1 at h
    rw [u2] at h
    simp only [hz, if_false] at h
    cases h
end Go.Proofs.YtnhjflebaeokeaaGreat
end

section
/- Rows of texts in memory: those that can be read, those of one's own (from a place of their block on); appends. -/
namespace Go.Proofs.YtnhjflebaeokeaaGreat
open Go.RowKit Go.Maps
variable {Xm : Nat → Prop}
/-- Texts that can be read. -/
def TxS (w : World) (v : Value) (R : List Bs) : Prop := ∃ ao cap, v = .slice ao R.length cap ∧ R.length ≤ cap ∧ (0 < R.length → ∃ b off, ao = some ⟨b, off, none⟩ ∧ ∀ j (h : j < R.length), w.cell? ⟨b, off + j, none⟩ = some (.string (str R[j])))
/-- Texts in a row of one's own. -/
def TxO (w : World) (B : Nat) (v : Value) (R : List Bs) : Prop := (v = .slice none 0 0 ∧ R = []) ∨ ∃ g off cap, v = .slice (some ⟨g, off, none⟩) R.length cap ∧ B ≤ g ∧ (∃ cur, w.heap[g]? = some (.cells cur 9 (0, 0)) ∧ off + cap ≤ cur.size) ∧ R.length ≤ cap ∧ cap ≤ maxLen ∧ ∀ j (h : j < R.length), w.cell? ⟨g, off + j, none⟩ = some (.string (str R[j]))
theorem TxO.toS {w : World} {B : Nat} {v : Value} {R : List Bs} (h : TxO w B v R) : TxS w v R := by
  rcases h with ⟨rfl, rfl⟩ | ⟨g, off, cap, rfl, _, _, h1, _, h2⟩
  · exact ⟨none, 0, rfl, Nat.le_refl _, fun h => absurd h (by simp)⟩
  · exact ⟨_, _, rfl, h1, fun _ => ⟨g, off, rfl, h2⟩⟩
theorem TxO.shape {w : World} {B : Nat} {v : Value} {R : List Bs} (h : TxO w B v R) : ∃ ao c, v = .slice ao R.length c := by
  rcases h with ⟨rfl, rfl⟩ | ⟨g, off, cap, rfl, _⟩
  · exact ⟨none, 0, rfl⟩
  · exact ⟨_, _, rfl⟩
theorem TxO.nil (w : World) (B : Nat) : TxO w B (.slice none 0 0) [] := .inl ⟨rfl, rfl⟩
theorem TxO.low {w : World} {B C : Nat} {v : Value} {R : List Bs} (h : TxO w B v R) (hC : C ≤ B) : TxO w C v R := by
  rcases h with h | ⟨g, off, cap, h1, h2, h3⟩
  · exact .inl h
  · exact .inr ⟨g, off, cap, h1, Nat.le_trans hC h2, h3⟩
theorem TxO.up {w : World} {B C : Nat} {v : Value} {R : List Bs} (h : TxO w B v R) (hC : ∀ k, v.ownBlock = some k → C ≤ k) : TxO w C v R := by
  rcases h with h | ⟨g, off, cap, rfl, h2, h3⟩
  · exact .inl h
  · exact .inr ⟨g, off, cap, rfl, hC g rfl, h3⟩
theorem TxO.tag {w : World} {B : Nat} {v : Value} {R : List Bs} (h : TxO w B v R) {k : Nat} (hk : v.ownBlock = some k) : B ≤ k ∧ ∃ c f, w.heap[k]? = some (.cells c 9 f) := by
  rcases h with ⟨rfl, _⟩ | ⟨g, off, cap, rfl, h1, ⟨cur, h2, _⟩, _⟩
  · cases hk
  · cases hk
    exact ⟨h1, _, _, h2⟩
theorem TxO.below {w V w' : World} {B : Nat} {v : Value} {R : List Bs} (h : TxO w B v R) (hV : B ≤ V.heap.size) (f : Fr V w' (fun k => v.ownBlock = some k)) : Below B V w' := f.below hV (fun _ hk => (h.tag hk).1)
theorem TxO.kept {w w' : World} {B : Nat} {v : Value} {R : List Bs} (h : TxO w B v R) {S : Nat → Prop} (f : Fr w w' S) (hS : ∀ k, v.ownBlock = some k → ¬ S k) : TxO w' B v R := by
  rcases h with h | ⟨g, off, cap, rfl, h1, ⟨cur, h2, h3⟩, h4, h5, h6⟩
  · exact .inl h
  · have e := f.block g (lt_blk h2) (hS g rfl)
    refine .inr ⟨g, off, cap, rfl, h1, ⟨cur, e.trans h2, h3⟩, h4, h5, fun j hj => ?_⟩
    exact (World.cell?_of_block (a := ⟨g, off + j, none⟩) e).trans (h6 j hj)
theorem TxO.new {w w' : World} {B : Nat} {v : Value} {R : List Bs} (h : TxO w B v R) (hb : Below w.heap.size w w') : TxO w' B v R := h.kept (Fr.ofBelow hb (fun _ => False)) (fun _ _ h => h)
/-- What a disk writes is no row of texts. -/
theorem TxO.frD {w w' : World} {B D : Nat} {v : Value} {R : List Bs} (h : TxO w B v R) (f : FrD Xm D w w') : TxO w' B v R := by
  refine h.kept f (fun k hk s => ?_)
  obtain ⟨_, c, f', hb⟩ := h.tag hk
  rcases s.2 with ⟨es, c', hm⟩ | ⟨c', t, f'', hm, ht⟩
  · rw [hb] at hm; cases hm
  · rw [hb] at hm
    cases hm
    rcases ht with ht | ht <;> exact absurd ht (by decide)
theorem TxS.new {w w' : World} {v : Value} {R : List Bs} (h : TxS w v R) (hb : Below w.heap.size w w') : TxS w' v R := by
  obtain ⟨ao, cap, rfl, h1, h2⟩ := h
  refine ⟨ao, cap, rfl, h1, fun h0 => ?_⟩
  obtain ⟨b, off, e, h3⟩ := h2 h0
  exact ⟨b, off, e, fun j hj => (hb.cell (p := ⟨b, off + j, none⟩) (lt_cellD (h3 j hj))).trans (h3 j hj)⟩
def txc (R : List Bs) : List Value := R.map fun s => .string (str s)
theorem txc_len (R : List Bs) : (txc R).length = R.length := by simp [txc]
theorem txc_one (R : List Bs) : ∀ u ∈ txc R, u.oneCell' = true := by
  intro u hu
  obtain ⟨s, _, rfl⟩ := List.mem_map.1 hu
  rfl
theorem txc_get {R : List Bs} {j : Nat} {u : Value} (h : (txc R)[j]? = some u) : ∃ hj : j < R.length, u = .string (str R[j]) := by
  unfold txc at h
  rw [List.getElem?_map] at h
  cases e : R[j]? with
  | none => rw [e] at h; cases h
  | some x =>
    rw [e] at h
    obtain ⟨hj, rfl⟩ := List.getElem?_eq_some_iff.1 e
    cases h
    exact ⟨hj, rfl⟩
theorem TxO.ofRow {w : World} {B : Nat} {v : Value} {R : List Bs} (h : w.ownsRow B 9 1 v R.length (txc R)) : TxO w B v R := by
  rcases h.2 with ⟨h1, h2⟩ | ⟨g, cap, cur, rfl, h3, h4, h5, h6, h7, h8⟩
  · exact .inl ⟨h1, List.length_eq_zero_iff.1 h2⟩
  · refine .inr ⟨g, 0, cap, rfl, h3, ⟨cur, h4, by omega⟩, h5, h6, fun j hj => ?_⟩
    have := h.cells (g := g) rfl j (.string (str R[j])) (by unfold txc; rw [List.getElem?_map, List.getElem?_eq_getElem hj]; rfl)
    rw [Addr.add_lit] at this
    exact this
theorem blk_sets {g : Nat} {t : TypeId} : ∀ (vs : List Value) (o : Nat) (w : World) (cs : Array Value), w.heap[g]? = some (.cells cs t (0, 0)) → ∃ cs', (w.setCells g o vs).heap[g]? = some (.cells cs' t (0, 0)) ∧ cs'.size = cs.size
  | [], _, _, cs, h => ⟨cs, h, rfl⟩
  | v :: r, o, w, cs, h => by
    obtain ⟨cs', h1, h2⟩ := blk_sets r (o + 1) (w.setCell ⟨g, o, none⟩ v) _ (blk_set (i := o) v h)
    exact ⟨cs', h1, h2.trans (by simp)⟩
theorem fr_sets {g : Nat} : ∀ (vs : List Value) (o : Nat) (w : World), Fr w (w.setCells g o vs) (fun k => k = g)
  | [], _, w => Fr.refl w _
  | v :: r, o, w => (Fr.setCell (S := fun k => k = g) w ⟨g, o, none⟩ v rfl).trans (fr_sets r (o + 1) _) (fun _ _ h => h)
theorem infoS : ∃ i, Tryz.prog.info? 9 = some i ∧ i.zero = some (.string (str [])) ∧ i.size = 1 ∧ i.bytes = 16 := by
  cases h : Tryz.prog.info? 9 with
  | none =>
    have : (Tryz.prog.info? 9).isSome = true := by kernel_rfl
    rw [h] at this
    cases this
  | some i =>
    have h1 : (Tryz.prog.info? 9).map (·.zero) = some (some (.string (str []))) := by kernel_rfl
    have h2 : (Tryz.prog.info? 9).map (·.size) = some 1 := by kernel_rfl
    have h3 : (Tryz.prog.info? 9).map (·.bytes) = some 16 := by kernel_rfl
    rw [h] at h1 h2 h3
    exact ⟨i, rfl, by simpa using h1, by simpa using h2, by simpa using h3⟩
theorem run_append_noneT {P : Program} (w : World) (t ty e : TypeId) (i : TypeInfo) (ht : P.underlying t = some (.slice e)) (hi : P.info? e = some i) (base bo : Option Addr) (n c c2 : Nat) (hle : n ≤ c) :
    (Builtin.append_ #[t, t] ty #[.slice base n c, .slice bo 0 c2]).run P w = .ok (.slice base n c) w := by
  cases base <;> cases bo <;> simp [Builtin.append_, run_underlying ht, sizeOf, typeInfo, hi, hle, storeCells, loadCells, loadCellsFrom, Builtin.lenOf, Builtin.firstCells]
theorem row_txo {w' : World} {B : Nat} {v' : Value} {R S : List Bs} (h : w'.ownsRow B 9 1 v' (R.length + S.length) (txc R ++ txc S)) : TxO w' B v' (R ++ S) := by
  refine TxO.ofRow ?_
  rw [List.length_append]
  unfold txc at h ⊢
  rw [List.map_append]
  exact h
/-- Texts put behind texts of one's own. -/
theorem run_appT {w : World} {B : Nat} {v x : Value} {R S : List Bs} (hv : TxO w B v R) (hx : TxS w x S) (hl : R.length + S.length ≤ 2000000000) (hB : B ≤ w.heap.size) (ty : TypeId) : ∃ v' w', (Builtin.append_ #[29, 29] ty #[v, x]).run Tryz.prog w = .ok v' w' ∧ TxO w' B v' (R ++ S) ∧ Fr w w' (fun k => v.ownBlock = some k) ∧ (∀ k, v'.ownBlock = some k → v.ownBlock = some k ∨ w.heap.size ≤ k) := by
  obtain ⟨i, hi, hz, hsize, hby⟩ := infoS
  have ht := Tryz.underlying29
  obtain ⟨ao, c, rfl, hc, hs⟩ := hx
  by_cases hm : 0 < S.length
  · obtain ⟨b, o, rfl, hcell⟩ := hs hm
    have hsrc : ∀ j u, (txc S)[j]? = some u → w.cell? ((⟨b, o, none⟩ : Addr).add j) = some u := fun j u hu => by
      obtain ⟨hj, rfl⟩ := txc_get hu
      rw [Addr.add_lit]
      exact hcell j hj
    have hlS : (txc S).length = S.length * 1 := by rw [txc_len, Nat.mul_one]
    rcases hv with ⟨rfl, rfl⟩ | ⟨g, off, cap, rfl, h1, ⟨cur, h2, h3⟩, h4, h5, h6⟩
    · obtain ⟨v', w', hr, h2, h3, _, h5⟩ := run_append_own_at (P := Tryz.prog) w B 29 ty 9 i _ 1 16 ht hi hz hsize hby rfl (by decide) (.slice none 0 0) 0 [] (World.ownsRow_nil _ _ _ _) ⟨b, o, none⟩ S.length c (txc S) hlS hsrc (txc_one S) (by simp at hl; unfold maxLen; omega) (by simp at hl; omega) hB
      refine ⟨v', w', hr, row_txo (R := []) (S := S) (by simpa [txc] using h2), Fr.grown h3 (fun k e => e), fun k hk => ?_⟩
      rcases h5 with h5 | h5
      · exact .inl (h5.symm.trans hk)
      · rw [h5] at hk; cases hk; exact .inr (Nat.le_refl _)
    · by_cases hroom : R.length + S.length ≤ cap
      · have hsome : ∀ j, j < (txc S).length → (w.cell? ⟨g, off + R.length * i.size + j, none⟩).isSome = true := fun j hj => by
          rw [txc_len] at hj
          rw [hsize, Nat.mul_one, cell_blk h2]
          simp
          omega
        have hfz : ∀ j, j < (txc S).length → w.frozen? ⟨g, off + R.length * i.size + j, none⟩ = false := fun j _ => by simp [World.frozen?, h2]
        have hr := run_append_room_cells (P := Tryz.prog) w 29 ty 9 i ht hi g off R.length cap ⟨b, o, none⟩ S.length c (txc S) (by rw [hsize]; exact hlS) hsrc (txc_one S) hroom hsome hfz
        refine ⟨_, _, hr, .inr ⟨g, off, cap, by rw [List.length_append], h1, ?_, by rw [List.length_append]; exact hroom, h5, ?_⟩, Fr.mono (fr_sets _ _ _) (fun k _ e => by rw [e]; rfl), fun k hk => .inl hk⟩
        · obtain ⟨cs', e1, e2⟩ := blk_sets (txc S) (off + R.length * i.size) w cur h2
          exact ⟨cs', e1, by omega⟩
        · intro j hj
          rw [List.length_append] at hj
          by_cases hjR : j < R.length
          · rw [World.cell?_setCells_out g _ _ _ _ (fun _ _ => .inl (by rw [hsize]; show off + j < _; omega)), List.getElem_append_left hjR]
            exact h6 j hjR
          · have e := World.cell?_setCells_in g (txc S) (off + R.length * i.size) w hsome (j - R.length) (by rw [txc_len]; omega)
            rw [show off + R.length * i.size + (j - R.length) = off + j by rw [hsize]; omega] at e
            rw [e, List.getElem_append_right (by omega)]
            simp [txc]
      · obtain ⟨v', w', hr, h7, h8⟩ := run_append_arg_grows (P := Tryz.prog) w 29 ty 9 i _ 1 16 ht hi hz hsize hby rfl (by decide) ⟨g, off, none⟩ R.length cap (txc R) (by rw [txc_len, Nat.mul_one]) (fun j u hu => by
            obtain ⟨hj, rfl⟩ := txc_get hu
            rw [Addr.add_lit]
            exact h6 j hj) ⟨b, o, none⟩ S.length c (txc S) hlS hsrc (by omega) (by unfold maxLen; omega) (by omega)
        have hT := row_txo h7
        exact ⟨v', w', hr, hT.low hB, Fr.grown h8 (fun k e => by cases e), fun k hk => .inr (hT.tag hk).1⟩
  · have e0 : S = [] := List.length_eq_zero_iff.1 (by omega)
    subst e0
    rcases hv with ⟨rfl, rfl⟩ | ⟨g, off, cap, rfl, h1, h2, h4, h5, h6⟩
    · exact ⟨_, _, run_append_noneT w _ ty _ i ht hi none ao 0 0 c (Nat.le_refl _), .inl ⟨rfl, rfl⟩, Fr.refl _ _, fun k hk => .inl hk⟩
    · refine ⟨_, _, run_append_noneT w _ ty _ i ht hi (some ⟨g, off, none⟩) ao R.length cap c h4, ?_, Fr.refl _ _, fun k hk => .inl hk⟩
      rw [List.append_nil]
      exact .inr ⟨g, off, cap, rfl, h1, h2, h4, h5, h6⟩
theorem op_appT {o : Oper} {a : Act} {w : World} {K : Act → World → Prop} {Q : Exit → Act → World → Prop} {s x : Operand} (hop : o.op = .call { callee := .builtin .append, args := #[s, x], argTypes := #[29, 29] })
    {B : Nat} {v xv : Value} {R S : List Bs} (hs : a.eval s = v) (hx : a.eval x = xv) (hv : TxO w B v R) (hS : TxS w xv S) (hl : R.length + S.length ≤ 2000000000) (hB : B ≤ w.heap.size)
    (h : ∀ v' w', TxO w' B v' (R ++ S) → Fr w w' (fun k => v.ownBlock = some k) → (∀ k, v'.ownBlock = some k → v.ownBlock = some k ∨ w.heap.size ≤ k) → K (a.put o.dst v') w') : o.wp Tryz.prog a w K Q := by
  obtain ⟨v', w', hr, h2, h3, h5⟩ := run_appT hv hS hl hB o.type
  unfold Oper.wp execOp
  simp only [hop, resolve, invoke, builtin, Sem.run_bind, Sem.run_pure, Result.andThen_ok, List.map_toArray, List.map_cons, List.map_nil, hs, hx, hr]
  exact h v' w' h2 h3 h5
theorem wpl_appT {ops : Array Oper} {rest : List Oper} {o : Oper} {a : Act} {w : World} {Q : Exit → Act → World → Prop} (hgd : o.guard = none) {s x : Operand} (hop : o.op = .call { callee := .builtin .append, args := #[s, x], argTypes := #[29, 29] })
    {B : Nat} {v xv : Value} {R S : List Bs} (hs : a.eval s = v) (hx : a.eval x = xv) (hv : TxO w B v R) (hS : TxS w xv S) (hl : R.length + S.length ≤ 2000000000) (hB : B ≤ w.heap.size)
    (h : ∀ v' w', TxO w' B v' (R ++ S) → Fr w w' (fun k => v.ownBlock = some k) → (∀ k, v'.ownBlock = some k → v.ownBlock = some k ∨ w.heap.size ≤ k) → wpList Tryz.prog ops Q rest (a.put o.dst v') w') : wpList Tryz.prog ops Q (o :: rest) a w :=
  wpList_plain hgd fun _ hK => op_appT hop hs hx hv hS hl hB (fun v' w' h2 h3 h5 => hK _ _ (h v' w' h2 h3 h5))
theorem src1 (w : World) (x : Bs) : TxS (w.alloc (.cells #[.string (str x)] 9)) (.slice (some ⟨w.heap.size, 0, none⟩) 1 1) [x] := by
  refine ⟨_, 1, rfl, Nat.le_refl _, fun _ => ⟨w.heap.size, 0, rfl, fun j hj => ?_⟩⟩
  obtain rfl : j = 0 := by simpa using hj
  exact cell_blk (heap_alloc_new _ _)
end Go.Proofs.YtnhjflebaeokeaaGreat
end

section
/- wal: the texts of the frames of a file. -/
namespace Go.Proofs.YtnhjflebaeokeaaGreat
open Go.RowKit Go.Maps
attribute [local go_sem] Oper.semAt_some
section
variable {l x : Bs} {a n : Nat}
theorem unframe_ok (w : World) (ha : a ≤ l.length) (hl : l.length ≤ maxLen) (h : unf1 (l.drop a) = some (x, n)) : Calls Tryz.prog 114 #[.string (str l), .int .i64 a] w fun e w' => e = .returned (.tuple #[.string (str x), .int .i64 ((a + n : Nat) : Int), .int .i64 0]) ∧ Below w.heap.size w w' := by
  have h1 := unframe_any (str l) a w ha hl
  rw [(unfr_shift l a).2 x n h] at h1
  exact h1
theorem unframe_no (ha : a ≤ l.length) (hl : l.length ≤ maxLen) (h : unf1 (l.drop a) = none) : ∃ (s : ByteArray) (y er : Int), ¬ er = 0 ∧ ∀ w, Calls Tryz.prog 114 #[.string (str l), .int .i64 a] w fun e w' => e = .returned (.tuple #[.string s, .int .i64 y, .int .i64 er]) ∧ Below w.heap.size w w' :=
  ⟨_, _, _, (unfr_shift l a).1 h, fun w => unframe_any (str l) a w ha hl⟩
end
theorem step_unf {l x : Bs} {a n : Nat} {R : List Bs} (h : unf1 (l.drop a) = some (x, n)) (hU : unfV l = (R ++ (unfV (l.drop a)).1, a + (unfV (l.drop a)).2)) : unfV l = ((R ++ [x]) ++ (unfV (l.drop (a + n))).1, (a + n) + (unfV (l.drop (a + n))).2) := by
  rw [hU, unfV_some h, List.drop_drop]
  simp
  omega
set_option maxRecDepth 100000 in
set_option maxHeartbeats 1600000 in
theorem unframeAll_any {l : Bs} (w : World) (hl : l.length ≤ 4611686018427387903) (hN : (unfV l).1.length ≤ 1000000) : Calls Tryz.prog 81 #[.string (str l)] w fun r w' => ∃ v, r = .returned (.tuple #[v, .int .i64 ((unfV l).2 : Int)]) ∧ TxO w' w.heap.size v (unfV l).1 ∧ Below w.heap.size w w' := by
  have HL : Hid (l.length ≤ maxLen) := by show _ ≤ _; unfold maxLen; omega
  have HN : Hid ((unfV l).1.length ≤ 1000000) := hN
  clear hN
  go_enter Tryz.func81, Tryz.ntmps81
  go_wp2
  go_loopw [4, 5, 6, 7, 8] (fun tx i _ _ _ wr => ∃ (ao : Option Addr) (m c : Nat) (T : List Bs) (a : Nat), tx = .slice ao m c ∧ i = .int .i64 a ∧ a ≤ l.length ∧ Hid (TxO wr w.heap.size (.slice ao m c) T) ∧ Hid (unfV l = (T ++ (unfV (l.drop a)).1, a + (unfV (l.drop a)).2)) ∧ Hid (Below w.heap.size w wr)) (fun _ i _ _ _ _ => l.length - (intOf i).toNat)
  case atStart => exact ⟨none, 0, 0, [], 0, rfl, rfl, Nat.zero_le _, TxO.nil _ _, (by show _ = _; simp), Below.refl _ _⟩
  case round =>
    obtain ⟨ao, m, c, T, a, rfl, rfl, ha, HT, HU, HB⟩ := hrel
    cases h : unf1 (l.drop a) with
    | none =>
      obtain ⟨s, y, er, her, hC⟩ := unframe_no ha HL.out h
      have hz : (er != 0) = true := by simpa using her
      have HR : Hid (unfV l = (T, a)) := by
        show _ = _
        rw [HU.out, unfV_none h]
        simp
      clear h her
      go_wp2_with (go_at_call 114; refine (hC _).mono ?_; rintro r w1 ⟨rfl, hb⟩; have HB1 : Hid (Below wr.heap.size wr w1) := hb; clear hb)
      go_ret2
      rw [HR.out]
      exact ⟨_, rfl, HT.out.new HB1.out, HB.out.trans (HB1.out.mono HB.out.size)⟩
    | some q =>
      obtain ⟨x, n⟩ := q
      have hC := unframe_ok wr ha HL.out h
      have H1 : Hid _ := unf1_some h
      have HU2 : Hid _ := step_unf h HU.out
      have HM : Hid (T.length + [x].length ≤ 2000000000) := by
        show _ ≤ _
        have h1 := HN.out
        rw [HU2.out] at h1
        simp at h1 ⊢
        omega
      clear h
      go_wp2_with (first
        | (go_at_call 114; refine hC.mono ?_; rintro r w1 ⟨rfl, hb⟩; have HB1 : Hid (Below wr.heap.size wr w1) := hb; clear hb)
        | (at_builtin; refine wpl_appT rfl rfl rfl rfl (HT.out.new (HB1.out.trans ((one_newD w1 (.cells #[.string (str x)] 9)).mono HB1.out.size))) (src1 w1 x) HM.out ?_ ?_; (have h1 := HB.out.size; have h2 := HB1.out.size; simp; omega); intro v2 w2 o2 f2 b2; have HO2 : Hid (TxO w2 w.heap.size v2 (T ++ [x])) := o2; have HF2 : Hid (Below w.heap.size (w1.alloc (.cells #[.string (str x)] 9)) w2) := HT.out.below (by have h1 := HB.out.size; have h2 := HB1.out.size; simp; omega) f2; clear o2 f2 b2; obtain ⟨ao2, c2, rfl⟩ := HO2.out.shape))
      have hb3 := HB.out.trans (HB1.out.mono HB.out.size)
      have hb4 := hb3.trans ((one_newD w1 (.cells #[.string (str x)] 9)).mono hb3.size)
      have h1 := H1.out.1
      have h2 := H1.out.2.2
      rw [List.length_drop] at h1
      refine ⟨⟨ao2, _, c2, T ++ [x], a + n, rfl, by go_num, by omega, (by have h := HO2.out; rw [List.length_append] at h; exact h), HU2, hb4.trans HF2.out⟩, by simp [intOf]; omega⟩
end Go.Proofs.YtnhjflebaeokeaaGreat
end

section
/- The library's builder of texts, and clones of rows of texts: which of the program's functions are the library's. -/
namespace Go.Proofs.YtnhjflebaeokeaaGreat
open Go.Shelf Go.Proofs
def layBS_ren : Go.Shelf.Ren := ⟨fun | 169 => 148 | n => n, fun | 70 => 187 | 9 => 9 | 0 => 0 | 72 => 189 | 37 => 55 | 127 => 215 | 3 => 3 | 5 => 5 | n => n, fun | n => n⟩
theorem layBS : Go.Proofs.Lays.n169 Tryz.prog layBS_ren := {
  mixed := by kernel_rfl,
  f169 := Tryz.func148.trans (congrArg some (by kernel_rfl)),
  t0 := Tryz.underlying0,
  a0 := Tryz.isAgg0,
  z0 := Tryz.sizeOf0,
  v0 := Tryz.zeroValue0,
  t3 := Tryz.underlying3,
  a3 := Tryz.isAgg3,
  z3 := Tryz.sizeOf3,
  v3 := Tryz.zeroValue3,
  t9 := Tryz.underlying9,
  a9 := Tryz.isAgg9,
  z9 := Tryz.sizeOf9,
  v9 := Tryz.zeroValue9,
  t37 := Tryz.underlying55,
  a37 := Tryz.isAgg55,
  z37 := Tryz.sizeOf55,
  v37 := Tryz.zeroValue55,
  t70 := Tryz.underlying187,
  a70 := Tryz.isAgg187,
  z70 := Tryz.sizeOf187,
  v70 := Tryz.zeroValue187,
  t72 := Tryz.underlying189,
  a72 := Tryz.isAgg189,
  z72 := Tryz.sizeOf189,
  v72 := Tryz.zeroValue189,
  t127 := Tryz.underlying215,
  a127 := Tryz.isAgg215,
  z127 := Tryz.sizeOf215,
  v127 := Tryz.zeroValue215}
def layCloneS_ren : Go.Shelf.Ren := ⟨fun | 42 => 122 | n => n, fun | 25 => 29 | 26 => 9 | 4 => 4 | n => n, fun | n => n⟩
theorem layCloneS : Go.Proofs.SlLaysN.n42 Tryz.prog layCloneS_ren := {
  mixed := by kernel_rfl,
  f42 := ⟨Tryz.f122.name, by decide, Tryz.func122.trans (congrArg some (by kernel_rfl))⟩,
  t4 := Tryz.underlying4,
  a4 := Tryz.isAgg4,
  z4 := Tryz.sizeOf4,
  v4 := Tryz.zeroValue4,
  t25 := Tryz.underlying29,
  a25 := Tryz.isAgg29,
  z25 := Tryz.sizeOf29,
  v25 := Tryz.zeroValue29,
  t26 := Tryz.underlying9,
  a26 := Tryz.isAgg9,
  z26 := Tryz.sizeOf9,
  v26 := Tryz.zeroValue9,
  i26 := by kernel_rfl}
end Go.Proofs.YtnhjflebaeokeaaGreat
end

section
/- A builder of texts: what is written into it, and what it tells. -/
namespace Go.Proofs.YtnhjflebaeokeaaGreat
open Go.RowKit Go.Shelf Go.Proofs
theorem bldSize : (Tryz.prog.info? 189).map (·.size) = some 2 := by kernel_rfl
theorem bldLies : liesAt Tryz.prog Tryz.prog.depth 189 (2 / Tryz.prog.cellsOf 189) 0 189 1 = true := by kernel_rfl
theorem bldByte : (Tryz.prog.info? 5).map (fun i => (i.zero, i.size, i.bytes)) = some (some (.int .u8 0), 1, 1) := by kernel_rfl
theorem ptr_out {w : World} {b : Nat} {j : TypeInfo} (hj : Tryz.prog.info? 189 = some j) (hs : j.size = 2) (hsh : w.shape? b = some (189, 2)) : (convert 187 225 (.pointer (some ⟨b, 0, none⟩))).run Tryz.prog w = .ok (.pointer (some ⟨b, 0, none⟩)) w := by
  have u1 := run_underlying (P := Tryz.prog) Tryz.underlying187
  have u2 := run_underlying (P := Tryz.prog) Tryz.underlying225
  simp [convert, u1, u2, Conv.unsafePointer, Conv.seenAt, viewAt, cellsIn, hsh, sizeOf, typeInfo, hj, hs]
theorem ptr_back {w : World} {b : Nat} {j : TypeInfo} (hj : Tryz.prog.info? 189 = some j) (hsh : w.shape? b = some (189, 2)) : (convert 225 187 (.pointer (some ⟨b, 0, none⟩))).run Tryz.prog w = .ok (.pointer (some ⟨b, 0, none⟩)) w := by
  have u1 := run_underlying (P := Tryz.prog) Tryz.underlying187
  have u2 := run_underlying (P := Tryz.prog) Tryz.underlying225
  simp [convert, u1, u2, Conv.unsafePointer, Conv.seenAt, viewAt, hsh, variablesAt, bldLies, sizeOf, typeInfo, hj]
set_option maxHeartbeats 1000000 in
set_option maxRecDepth 100000 in
theorem copyCheck_used (b : Nat) (w : World) (h0 : w.cell? ⟨b, 0, none⟩ = some (.pointer (some ⟨b, 0, none⟩))) :
    Calls Tryz.prog 170 #[.pointer (some ⟨b, 0, none⟩)] w fun e w' => e = .returned (.tuple #[]) ∧ w' = w := by
  obtain ⟨j, hj, _⟩ := Option.map_eq_some_iff.1 bldSize
  go_enter Tryz.func170, Tryz.ntmps170
  go_wp2
  rw [Lib.run_neq_ptr_same w _ Tryz.underlying187 hj]
  go_wp2
  go_end0
  exact ⟨rfl, rfl⟩
set_option maxHeartbeats 1000000 in
set_option maxRecDepth 100000 in
theorem copyCheck_fresh (b : Nat) (w : World) (h0 : w.cell? ⟨b, 0, none⟩ = some (.pointer none)) (hsh : w.shape? b = some (189, 2)) (hfz : w.frozen? ⟨b, 0, none⟩ = false) :
    Calls Tryz.prog 170 #[.pointer (some ⟨b, 0, none⟩)] w fun e w' => e = .returned (.tuple #[]) ∧ w' = w.setCell ⟨b, 0, none⟩ (.pointer (some ⟨b, 0, none⟩)) := by
  obtain ⟨j, hj, hjs⟩ := Option.map_eq_some_iff.1 bldSize
  go_enter Tryz.func170, Tryz.ntmps170
  go_wp2
  rw [ptr_out hj hjs hsh]
  simp only [Result.andThen]
  rw [Oper.upon_value]
  go_wp2
  rw [run_callFunc_extern Tryz.func178 (by kernel_rfl) (by kernel_rfl) (by kernel_rfl) (e := Extern.AbiNoEscape.same) (by kernel_rfl)]
  rw [Lib.run_noEscape]
  simp only [Result.andThen]
  rw [Oper.upon_value]
  go_wp2
  rw [ptr_back hj hsh]
  simp only [Result.andThen]
  rw [Oper.upon_value]
  go_wp2
  go_end0
  exact ⟨rfl, rfl⟩
theorem copyCheck_any (B b : Nat) (bs : List Value) (w : World) (h : Lib.IsBuilder 189 5 B b bs w) :
    Calls Tryz.prog 170 #[.pointer (some ⟨b, 0, none⟩)] w fun e w' => e = .returned (.tuple #[]) ∧ (Lib.BuilderAt 189 5 B b (.pointer (some ⟨b, 0, none⟩)) bs w' ∧ Below B w w') := by
  rcases h with h | h
  · refine (copyCheck_fresh b w h.cell0 h.shape h.frozen0).mono ?_
    rintro e w' ⟨rfl, rfl⟩
    exact ⟨rfl, h.used _, (Below.refl B w).setCell (p := ⟨b, 0, none⟩) h.1 _⟩
  · refine (copyCheck_used b w h.cell0).mono ?_
    rintro e w' ⟨rfl, rfl⟩
    exact ⟨rfl, h, Below.refl B _⟩
set_option maxHeartbeats 2000000 in
set_option maxRecDepth 100000 in
theorem writeString_any (B b : Nat) (bs : List Value) (s : ByteArray) (w : World) (h : Lib.IsBuilder 189 5 B b bs w) (hlen : bs.length + s.size ≤ 140737488355328) (hBw : B ≤ w.heap.size) :
    Calls Tryz.prog 147 #[.pointer (some ⟨b, 0, none⟩), .string s] w fun e w' => e = .returned (.tuple #[.int .i64 s.size, .nilIface]) ∧ (Lib.BuilderAt 189 5 B b (.pointer (some ⟨b, 0, none⟩)) (bs ++ Lib.strCells s) w' ∧ Below B w w') := by
  obtain ⟨i0, hi, hz0, hz1, hz2⟩ := info_parts bldByte
  go_enter Tryz.func147, Tryz.ntmps147
  go_wp2_with (go_at_call 170; refine (copyCheck_any B b bs _ h).mono ?_)
  rintro e w1 ⟨rfl, h1, hb1⟩
  obtain ⟨hB, v, hbk, hown, hne⟩ := h1
  have c0 : w1.cell? ⟨b, 0, none⟩ = some (.pointer (some ⟨b, 0, none⟩)) := by rw [Lib.cell_of_heap hbk]; rfl
  have c1 : w1.cell? ⟨b, 1, none⟩ = some v := by rw [Lib.cell_of_heap hbk]; rfl
  go_wp2_with (at_builtin; refine Lib.wpList_append_own_string _ rfl _ _ 55 9 rfl B 5 i0 Tryz.underlying55 Tryz.underlying9 hi hz0 hz1 hz2 _ _ _ rfl hown s rfl ?c3 ?c4 ?c5 ?_)
  case c3 => unfold maxLen; omega
  case c4 => omega
  case c5 => have := hb1.size; omega
  intro v' w2 hown' hgrow _
  have hlt : b < w1.heap.size := by
    rcases Nat.lt_or_ge b w1.heap.size with h' | h'
    · exact h'
    · simp [Array.getElem?_eq_none h'] at hbk
  have hb2 : w2.heap[b]? = some (.cells #[.pointer (some ⟨b, 0, none⟩), v] 189 (0, 0)) := by
    rw [hgrow.block b hlt (fun e => hne e.symm)]
    exact hbk
  have d0 : w2.cell? ⟨b, 0, none⟩ = some (.pointer (some ⟨b, 0, none⟩)) := by rw [Lib.cell_of_heap hb2]; rfl
  have d1 : w2.cell? ⟨b, 1, none⟩ = some v := by rw [Lib.cell_of_heap hb2]; rfl
  have f1 : w2.frozen? ⟨b, 1, none⟩ = false := Lib.frozen_of_heap hb2 1
  obtain ⟨ao, n', cap, rfl⟩ : ∃ ao n' cap, v' = .slice ao n' cap := by
    rcases hown'.2 with ⟨hv, _⟩ | ⟨g, cap, cur, hv, _⟩
    · exact ⟨_, _, _, hv⟩
    · exact ⟨_, _, _, hv⟩
  go_wp2
  go_ret2
  refine ⟨rfl, ?_, ?_⟩
  · exact Lib.BuilderAt.put (T := 189) (e := 5) hB hb2 (bs' := bs ++ Lib.strCells s) (by simpa [Lib.strCells_length] using hown') (by decide)
  · exact (hb1.grown hgrow (by have := hb1.size; omega) (fun k hk => (hown.lt k hk).1)).setCell (p := ⟨b, 1, none⟩) hB _
theorem bldX : Builder.Extra Tryz.prog layBS_ren := { sizeBuilder := by kernel_rfl, liesBuilder := by kernel_rfl, t5 := Tryz.underlying5, a5 := Tryz.isAgg5, z5 := Tryz.sizeOf5, v5 := Tryz.zeroValue5, infoByte := by kernel_rfl, cellsByte := by kernel_rfl, sizeByte := by kernel_rfl, neB5 := by decide }
theorem bstring_any (B b : Nat) (l : List UInt8) (w : World) (h : Lib.IsBuilder 189 5 B b (Lib.byteCells l) w) (hBw : B ≤ w.heap.size) :
    Calls Tryz.prog 148 #[.pointer (some ⟨b, 0, none⟩)] w fun e w' => e = .returned (.string (str l)) ∧ Below B w w' := Any.Builder_String_any layBS bldX B b l w h hBw
end Go.Proofs.YtnhjflebaeokeaaGreat
end

section
/- Clones of rows of texts; the frames of texts, one behind the other. -/
namespace Go.Proofs.YtnhjflebaeokeaaGreat
open Go.RowKit Go.Maps
attribute [local go_sem] Oper.semAt_some
theorem clone_txt {w : World} {v : Value} {R : List Bs} (h : TxS w v R) (hl : R.length ≤ 1000000) : Calls Tryz.prog 122 #[v] w fun r w' => ∃ v', r = .returned v' ∧ TxO w' w.heap.size v' R ∧ Below w.heap.size w w' := by
  obtain ⟨ao, cap, rfl, h1, h2⟩ := h
  by_cases h0 : 0 < R.length
  · obtain ⟨b, off, rfl, h3⟩ := h2 h0
    refine (AnyG.slices_Clone_string layCloneS b off R.length cap (R.map str) w (by simp) (by omega) (fun j hj => ?_)).mono ?_
    · rw [List.length_map] at hj
      rw [h3 j hj]
      simp [List.getD, hj]
    · rintro r w' ⟨v', rfl, h4, _, h5⟩
      refine ⟨v', rfl, TxO.ofRow ?_, h5⟩
      have e : ((R.map str).take R.length).map Value.string = txc R := by
        rw [List.take_of_length_le (by simp), List.map_map]
        rfl
      rw [e] at h4
      exact h4
  · have e0 : R = [] := List.length_eq_zero_iff.1 (by omega)
    subst e0
    cases ao with
    | none =>
      refine (AnyG.slices_Clone_string_nil layCloneS 0 cap w).mono ?_
      rintro r w' ⟨rfl, rfl⟩
      exact ⟨_, rfl, TxO.nil _ _, Below.refl _ _⟩
    | some a =>
      refine (AnyG.slices_Clone_string_zero layCloneS a cap w).mono ?_
      rintro r w' ⟨v', rfl, h4, _, h5⟩
      exact ⟨v', rfl, TxO.ofRow h4, h5⟩
theorem bld_kept1 {w w' : World} {B b : Nat} {p : Value} {bs : List Value} (h : Lib.BuilderAt 189 5 B b p bs w) (hb : Below w.heap.size w w') : Lib.BuilderAt 189 5 B b p bs w' := by
  obtain ⟨h1, v, h2, h3, h4⟩ := h
  exact ⟨h1, v, (hb.block b (lt_blk h2)).trans h2, row_keep h3 (Fr.ofBelow hb (fun _ => False)) (fun _ _ h => h), h4⟩
theorem bld_kept {w w' : World} {B b : Nat} {bs : List Value} (h : Lib.IsBuilder 189 5 B b bs w) (hb : Below w.heap.size w w') : Lib.IsBuilder 189 5 B b bs w' := h.elim (fun h => .inl (bld_kept1 h hb)) (fun h => .inr (bld_kept1 h hb))
theorem frs_take (R : List Bs) (k : Nat) (h : k < R.length) : frs (R.take (k + 1)) = frs (R.take k) ++ frameB R[k] := by
  rw [List.take_succ_eq_append_getElem h, frs_append, frs_one]
theorem frs_le (R : List Bs) (k : Nat) : (frs (R.take k)).length ≤ (frs R).length := by
  have h := congrArg List.length (congrArg frs (List.take_append_drop k R))
  rw [frs_append, List.length_append] at h
  omega
set_option maxRecDepth 100000 in
set_option maxHeartbeats 1600000 in
theorem frameAll_any {w : World} {v : Value} {R : List Bs} (h : TxS w v R) (hl : (frs R).length ≤ 1000000) : Calls Tryz.prog 116 #[v] w fun r w' => r = .returned (.string (str (frs R))) ∧ Below w.heap.size w w' := by
  obtain ⟨ao, cap, rfl, h1, h2⟩ := h
  have hR : R.length ≤ 1000000 := by have := len_frs R; omega
  have HR : Hid (0 < R.length → ∃ b off, ao = some ⟨b, off, none⟩ ∧ ∀ j (h : j < R.length), w.cell? ⟨b, off + j, none⟩ = some (.string (str R[j]))) := h2
  have HL : Hid ((frs R).length ≤ 1000000) := hl
  have HB0 : Hid (Below w.heap.size w (w.alloc (.cells #[.pointer none, .slice none 0 0] 189))) := one_newD _ _
  have HI0 : Hid (Lib.IsBuilder 189 5 w.heap.size w.heap.size (Lib.byteCells (frs (R.take 0))) (w.alloc (.cells #[.pointer none, .slice none 0 0] 189))) := Lib.fresh_isBuilder _ _ w
  clear h2 hl
  obtain ⟨n0, hn0⟩ : ∃ n0, R.length = n0 := ⟨_, rfl⟩
  have HN0 : Hid (R.length = n0) := hn0
  rw [hn0] at h1 hR ⊢
  clear hn0
  go_enter Tryz.func116, Tryz.ntmps116
  go_wp2
  go_loopw [5, 8] (fun _ i wr => ∃ k : Nat, k ≤ n0 ∧ i = .int .i64 k ∧ Hid (Lib.IsBuilder 189 5 w.heap.size w.heap.size (Lib.byteCells (frs (R.take k))) wr) ∧ Hid (Below w.heap.size w wr)) (fun _ i _ => n0 - (intOf i).toNat)
  case atStart => exact ⟨0, Nat.zero_le _, rfl, HI0, HB0⟩
  case round =>
    obtain ⟨k, hk, rfl, HI, HB⟩ := hrel
    by_cases hlt : k < n0
    · have hkl : k < R.length := by have := HN0.out; omega
      obtain ⟨b, off, rfl, hcs⟩ := HR.out (by omega)
      have z0 := (HB.out.cell (p := ⟨b, off + k, none⟩) (lt_cellD (hcs k hkl))).trans (hcs k hkl)
      have HY : Hid (frs (R.take (k + 1)) = frs (R.take k) ++ frameB R[k]) := frs_take R k hkl
      have HZ : Hid ((frs (R.take (k + 1))).length ≤ 1000000) := Nat.le_trans (frs_le R (k + 1)) HL.out
      have HX : Hid (R[k].length ≤ 1000000) := by
        have h3 := HZ.out
        rw [HY.out, List.length_append] at h3
        have h4 := frameB_pos R[k]
        show _ ≤ _
        omega
      have HF : Hid (∀ W, Calls Tryz.prog 115 #[.string (str R[k])] W fun e w' => e = .returned (.string (str (frameB R[k]))) ∧ Below W.heap.size W w') := fun W => frame_any (str R[k]) W (by have h3 := HX.out; rw [str_size]; omega)
      have HLt : Hid (k < n0) := hlt
      have HI2 : Hid (∀ W, Below wr.heap.size wr W → Calls Tryz.prog 147 #[.pointer (some ⟨w.heap.size, 0, none⟩), .string (str (frameB R[k]))] W fun e w' => e = .returned (.tuple #[.int .i64 (str (frameB R[k])).size, .nilIface]) ∧ (Lib.BuilderAt 189 5 w.heap.size w.heap.size (.pointer (some ⟨w.heap.size, 0, none⟩)) (Lib.byteCells (frs (R.take (k + 1)))) w' ∧ Below w.heap.size W w')) := fun W hW => by
        have h6 := writeString_any w.heap.size w.heap.size (Lib.byteCells (frs (R.take k))) (str (frameB R[k])) W (bld_kept HI.out hW) (by
          have h3 := HZ.out
          rw [HY.out, List.length_append] at h3
          rw [Lib.byteCells_length, str_size]
          omega) (Nat.le_trans HB.out.size hW.size)
        rw [HY.out, Lib.byteCells_append]
        rw [Lib.strCells_eq, str_list] at h6
        exact h6
      clear hcs HX HY
      generalize R[k] = y at z0 HF HI2
      clear hkl
      go_wp2_with (first
        | (go_at_call 115; refine (HF.out _).mono ?_; rintro r w1 ⟨rfl, hb⟩; have HB1 : Hid (Below wr.heap.size wr w1) := hb; clear hb)
        | (go_at_call 147; refine (HI2.out _ HB1.out).mono ?_; rintro r w2 ⟨rfl, hi, hb⟩; have HI3 : Hid (Lib.IsBuilder 189 5 w.heap.size w.heap.size (Lib.byteCells (frs (R.take (k + 1)))) w2) := .inr hi; have HB2 : Hid (Below w.heap.size w1 w2) := hb; clear hi hb))
      refine ⟨⟨k + 1, HLt.out, by go_num, HI3, (HB.out.trans (HB1.out.mono HB.out.size)).trans HB2.out⟩, by have := HLt.out; simp [intOf]; omega⟩
    · obtain rfl : k = n0 := by omega
      have hS := bstring_any w.heap.size w.heap.size (frs (R.take k)) wr HI.out HB.out.size
      have HE : Hid (frs (R.take k) = frs R) := by
        show _ = _
        rw [List.take_of_length_le (by have := HN0.out; omega)]
      go_wp2_with (go_at_call 148; refine hS.mono ?_; rintro r w1 ⟨rfl, hb⟩; have HB1 : Hid _ := hb; clear hb)
      go_ret
      rw [HE.out]
      exact ⟨rfl, HB.out.trans HB1.out⟩
end Go.Proofs.YtnhjflebaeokeaaGreat
end

section
/- A fall strikes: it is taken off the plan. -/
namespace Go.Proofs.YtnhjflebaeokeaaGreat
open Go.RowKit Go.Maps
variable {Xm : Nat → Prop}
attribute [local go_sem] Oper.semAt_some
/-- The disk with another plan. -/
def Dk.wp (A : Dk) (v : Value) : Dk := { A with pv := v }
section
variable {w : World} {B p : Nat} {A : Dk} {mn ms : Option Nat} {lv : Value} {g off m cc : Nat} {f0 f1 f2 : Int}
end
end Go.Proofs.YtnhjflebaeokeaaGreat
end

section
/- A change at which a fall strikes: the power fails ahead of it. -/
namespace Go.Proofs.YtnhjflebaeokeaaGreat
open Go.RowKit Go.Maps
variable {Xm : Nat → Prop}
attribute [local go_sem] Oper.semAt_some
theorem BdA.wp {A : Dk} {M : Nat} (h : BdA A M) (v : Value) : BdA (A.wp v) M := ⟨h.fit, h.sum, h.len, h.n⟩
section
variable {w : World} {B p M : Nat} {A : Dk} {mn ms : Option Nat} {lv : Value} {nm tt s : Bs} {L : List (Int × Int × Int)} {f : Int × Int × Int}
/-- The disk behind the fall. -/
def HitAt (w w' : World) (B p : Nat) (A : Dk) (f : Int × Int × Int) (L : List (Int × Int × Int)) : Prop := ∃ v, DkAt Xm w' B p ((A.fail f.2.1 f.2.2).wp v) ∧ PlanIs w' v L ∧ FrD Xm B w w'
theorem HitAt.back {w0 w w' : World} (h : HitAt (Xm := Xm) w w' B p A f L) (hb : FrD Xm B w0 w) : HitAt (Xm := Xm) w0 w' B p A f L := by
  obtain ⟨v, h1, h2, h3⟩ := h
  exact ⟨v, h1, h2, hb.trans h3⟩
end
end Go.Proofs.YtnhjflebaeokeaaGreat
end

section
/- A disk all of whose changes are sure, on plain data; a file made anew; the disk's contracts at such a disk. -/
namespace Go.Proofs.YtnhjflebaeokeaaGreat
open Go.RowKit Go.Maps
variable {Xm : Nat → Prop}
attribute [local go_sem] Oper.semAt_some
def fresh_ : Bs := [102, 114, 101, 115, 104]
def log_ : Bs := [108, 111, 103]
theorem fresh_log : ¬ fresh_ = log_ := by decide
/-- A disk with power all of whose changes are sure: files of at most M bytes, at most k of them, behind at most k changes. -/
structure Cl (A : Dk) (M k : Nat) : Prop where
  loose : A.loose = []
  dead : A.dead = false
  sort : SortF A.sure
  fit : FitF M A.sure
  len : A.sure.length ≤ k
  n : A.n ≤ k
  plan : A.pv = .slice none 0 0
theorem Cl.now {A : Dk} {M k : Nat} (h : Cl A M k) : A.now = A.sure := by
  unfold Dk.now
  rw [h.loose]
  rfl
theorem Cl.mono {A : Dk} {M k j : Nat} (h : Cl A M k) (hj : k ≤ j) : Cl A M j := ⟨h.loose, h.dead, h.sort, h.fit, Nat.le_trans h.len hj, Nat.le_trans h.n hj, h.plan⟩
theorem FitF.put {M : Nat} {l : Fl} (h : FitF M l) (x v : Bs) (hv : v.length ≤ M) : FitF M (putF x v l) := by
  intro p hp
  rcases mem_putF hp with rfl | hp
  · exact hv
  · exact h p hp
theorem FitF.del {M : Nat} {l : Fl} (h : FitF M l) (x : Bs) : FitF M (delF x l) := fun p hp => h p (mem_delF hp)
theorem add_now (A : Dk) (c : Chg) : (A.add c).now = doF A.now c := by
  unfold Dk.now Dk.add
  exact doneF_snoc _ _ _
/-- The file made anew. -/
def Dk.anew (A : Dk) (F : Bs) : Dk := (((A.add ⟨1, fresh_, [], F⟩).sync).add ⟨2, fresh_, log_, []⟩).sync
def Dk.more (A : Dk) (F : Bs) : Dk := (A.add ⟨0, log_, [], F⟩).sync
section
variable {A : Dk} {M k : Nat} {F G : Bs}
theorem Cl.wr (h : Cl A M k) (hF : F.length ≤ M) : Cl (A.add ⟨1, fresh_, [], F⟩).sync M (k + 1) ∧ getF fresh_ (A.add ⟨1, fresh_, [], F⟩).sync.sure = some F ∧ ∀ y, ¬ y = fresh_ → getF y (A.add ⟨1, fresh_, [], F⟩).sync.sure = getF y A.sure := by
  have e : (A.add ⟨1, fresh_, [], F⟩).sync = ⟨putF fresh_ F A.sure, [], A.n + 1, A.dead, A.pv⟩ := by
    unfold Dk.sync
    rw [add_now, h.now]
    rfl
  rw [e]
  refine ⟨⟨rfl, h.dead, sort_putF _ _ h.sort, h.fit.put _ _ hF, ?_, Nat.succ_le_succ h.n, h.plan⟩, ?_, fun y hy => ?_⟩
  · exact Nat.le_trans (len_putF _ _ _) (Nat.succ_le_succ h.len)
  · exact (getF_put h.sort _ _ _).trans (if_pos rfl)
  · exact (getF_put h.sort _ _ _).trans (if_neg hy)
theorem Cl.mv (h : Cl A M k) (hG : getF fresh_ A.sure = some F) : Cl (A.add ⟨2, fresh_, log_, []⟩).sync M (k + 1) ∧ getF log_ (A.add ⟨2, fresh_, log_, []⟩).sync.sure = some F := by
  have hof : ofF fresh_ A.sure = F := by unfold ofF; rw [hG]; rfl
  have e : (A.add ⟨2, fresh_, log_, []⟩).sync = ⟨putF log_ F (delF fresh_ A.sure), [], A.n + 1, A.dead, A.pv⟩ := by
    unfold Dk.sync
    rw [add_now, h.now, ← hof]
    rfl
  have hF : F.length ≤ M := by rw [← hof]; exact h.fit.of _
  rw [e]
  refine ⟨⟨rfl, h.dead, sort_putF _ _ (sort_delF _ h.sort), (h.fit.del _).put _ _ hF, ?_, Nat.succ_le_succ h.n, h.plan⟩, ?_⟩
  · exact Nat.le_trans (len_putF _ _ _) (Nat.succ_le_succ (Nat.le_trans (len_delF _ _) h.len))
  · exact (getF_put (sort_delF _ h.sort) _ _ _).trans (if_pos rfl)
theorem Cl.anew (h : Cl A M k) (hF : F.length ≤ M) : Cl (A.anew F) M (k + 2) ∧ getF log_ (A.anew F).sure = some F := by
  obtain ⟨h1, h2, _⟩ := h.wr hF
  exact h1.mv h2
theorem Cl.more (h : Cl A M k) (hG : getF log_ A.sure = some G) (hF : (G ++ F).length ≤ M) : Cl (A.more F) M (k + 1) ∧ getF log_ (A.more F).sure = some (G ++ F) := by
  have hof : ofF log_ A.sure = G := by unfold ofF; rw [hG]; rfl
  have e : A.more F = ⟨putF log_ (G ++ F) A.sure, [], A.n + 1, A.dead, A.pv⟩ := by
    unfold Dk.more Dk.sync
    rw [add_now, h.now, ← hof]
    rfl
  rw [e]
  refine ⟨⟨rfl, h.dead, sort_putF _ _ h.sort, h.fit.put _ _ hF, ?_, Nat.succ_le_succ h.n, h.plan⟩, ?_⟩
  · exact Nat.le_trans (len_putF _ _ _) (Nat.succ_le_succ h.len)
  · exact (getF_put h.sort _ _ _).trans (if_pos rfl)
theorem Cl.bdA (h : Cl A M k) (hM : M ≤ 2305843009213693952) (hk : k ≤ 100000) : BdA A M := by
  refine ⟨h.fit, ?_, ?_, Nat.le_trans h.n (by omega)⟩
  · rw [h.loose]; simp [sz]; omega
  · rw [h.loose]; have := h.len; simp; omega
theorem Cl.bd (h : Cl A M k) (hM : M ≤ 2305843009213693952) (hk : k ≤ 100000) (c : Chg) (hc : c.s.length ≤ 2305843009213693952) : Bd A c := (h.bdA hM hk).toBd c (by omega) (by rw [h.loose]; simp)
/-- Behind a fall of such a disk nothing is lost. -/
theorem Cl.crash (h : Cl A M k) (keep tn : Int) : { A.fail keep tn with dead := false } = A := by
  have e : failF A.sure A.loose keep tn = A.sure := by
    rw [h.loose]
    unfold failF cutN
    simp [doneF]
  unfold Dk.fail
  rw [e]
  cases A
  simp only [Dk.mk.injEq, true_and, and_true]
  exact ⟨h.loose.symm, h.dead.symm⟩
end
section
variable {w : World} {B p : Nat} {A : Dk} {M k : Nat} {snap F : Bs} {v : Value} {R : List Bs}
theorem cl_write (h : DkAt Xm w B p A) (hB : B ≤ w.heap.size) (hc : Cl A M k) (hM : M ≤ 2305843009213693952) (hk : k ≤ 100000) (hF : F.length ≤ M) : Calls Tryz.prog 33 #[.pointer (some ⟨p, 0, none⟩), .string (str fresh_), .string (str F)] w fun r w' => r = .returned (.int .i64 0) ∧ DkAt Xm w' B p (A.add ⟨1, fresh_, [], F⟩) ∧ FrD Xm B w w' := by
  obtain ⟨mn, ms, lv, h⟩ := h
  exact write_ok h hB (quiet_nil hc.plan) hc.dead (by decide) (hc.bd hM hk _ (Nat.le_trans hF hM))
theorem cl_append (h : DkAt Xm w B p A) (hB : B ≤ w.heap.size) (hc : Cl A M k) (hM : M ≤ 2305843009213693952) (hk : k ≤ 100000) (hF : F.length ≤ M) : Calls Tryz.prog 139 #[.pointer (some ⟨p, 0, none⟩), .string (str log_), .string (str F)] w fun r w' => r = .returned (.int .i64 0) ∧ DkAt Xm w' B p (A.add ⟨0, log_, [], F⟩) ∧ FrD Xm B w w' := by
  obtain ⟨mn, ms, lv, h⟩ := h
  exact append_ok h hB (quiet_nil hc.plan) hc.dead (by decide) (hc.bd hM hk _ (Nat.le_trans hF hM))
theorem cl_move (h : DkAt Xm w B p A) (hB : B ≤ w.heap.size) (hc : Cl A M k) (hM : M ≤ 2305843009213693952) (hk : k ≤ 100000) (hg : getF fresh_ A.sure = some F) : Calls Tryz.prog 117 #[.pointer (some ⟨p, 0, none⟩), .string (str fresh_), .string (str log_)] w fun r w' => r = .returned (.int .i64 0) ∧ DkAt Xm w' B p (A.add ⟨2, fresh_, log_, []⟩) ∧ FrD Xm B w w' := by
  obtain ⟨mn, ms, lv, h⟩ := h
  exact move_ok h hB (quiet_nil hc.plan) hc.dead (by decide) (by decide) (by rw [hc.now, hg]; rfl) fresh_log (hc.bd hM hk _ (by simp))
theorem cl_sync (c : Chg) (h : DkAt Xm w B p (A.add c)) (hc : Cl A M k) (hk : k ≤ 100000) : Calls Tryz.prog 34 #[.pointer (some ⟨p, 0, none⟩)] w fun r w' => r = .returned (.int .i64 0) ∧ DkAt Xm w' B p (A.add c).sync ∧ FrD Xm B w w' := by
  obtain ⟨mn, ms, lv, h⟩ := h
  refine sync_any h hc.dead ?_
  show A.sure.length + (A.loose ++ [c]).length ≤ _
  rw [hc.loose]
  have := hc.len
  simp
  omega
set_option maxRecDepth 100000 in
set_option maxHeartbeats 1600000 in
/-- The file made anew, whatever its four calls on the disk lead to. -/
theorem makeAnew_core {A1 A2 A3 A4 : Dk} (hB : B ≤ w.heap.size) (hv : TxS w v R) (hR : (frs R).length ≤ 1000000) (hs : snap.length + 10 ≤ 140737488355328)
    (hW : ∀ W, Below w.heap.size w W → Calls Tryz.prog 33 #[.pointer (some ⟨p, 0, none⟩), .string (str fresh_), .string (str (frs (snap :: R)))] W fun r w' => r = .returned (.int .i64 0) ∧ DkAt Xm w' B p A1 ∧ FrD Xm B W w')
    (hS1 : ∀ W, DkAt Xm W B p A1 → FrD Xm B w W → Calls Tryz.prog 34 #[.pointer (some ⟨p, 0, none⟩)] W fun r w' => r = .returned (.int .i64 0) ∧ DkAt Xm w' B p A2 ∧ FrD Xm B W w')
    (hMv : ∀ W, B ≤ W.heap.size → DkAt Xm W B p A2 → FrD Xm B w W → Calls Tryz.prog 117 #[.pointer (some ⟨p, 0, none⟩), .string (str fresh_), .string (str log_)] W fun r w' => r = .returned (.int .i64 0) ∧ DkAt Xm w' B p A3 ∧ FrD Xm B W w')
    (hS2 : ∀ W, DkAt Xm W B p A3 → FrD Xm B w W → Calls Tryz.prog 34 #[.pointer (some ⟨p, 0, none⟩)] W fun r w' => r = .returned (.int .i64 0) ∧ DkAt Xm w' B p A4 ∧ FrD Xm B W w') :
    Calls Tryz.prog 82 #[.pointer (some ⟨p, 0, none⟩), .string (str snap), v] w fun r w' => r = .returned (.int .i64 0) ∧ DkAt Xm w' B p A4 ∧ FrD Xm B w w' := by
  have HFr : Hid (∀ W, Calls Tryz.prog 115 #[.string (str snap)] W fun e w' => e = .returned (.string (str (frameB snap))) ∧ Below W.heap.size W w') := fun W => frame_any (str snap) W hs
  have HFa : Hid (∀ W, Below w.heap.size w W → Calls Tryz.prog 116 #[v] W fun r w' => r = .returned (.string (str (frs R))) ∧ Below W.heap.size W w') := fun W hW => frameAll_any (hv.new hW) hR
  have HW : Hid (∀ W, Below w.heap.size w W → Calls Tryz.prog 33 #[.pointer (some ⟨p, 0, none⟩), .string (str fresh_), .string (str (frameB snap) ++ str (frs R))] W fun r w' => r = .returned (.int .i64 0) ∧ DkAt Xm w' B p A1 ∧ FrD Xm B W w') := fun W hb => by
    rw [str_append, ← frs_cons]
    exact hW W hb
  have HS1 : Hid _ := hS1
  have HM : Hid _ := hMv
  have HS2 : Hid _ := hS2
  have HB0 : Hid (B ≤ w.heap.size) := hB
  have hsz : (str (frameB snap)).size ≤ 140737488355342 := by
    have := frameB_le snap (by omega)
    rw [str_size]
    omega
  have hsz2 : (str (frs R)).size ≤ 1000000 := hR
  obtain ⟨ao, cap, rfl, _, _⟩ := hv
  clear hB hR hs hW hS1 hMv hS2
  generalize str (frameB snap) = s1 at HFr HW hsz
  generalize str (frs R) = s2 at HFa HW hsz2
  have t1 : True := trivial
  go_enter Tryz.func82, Tryz.ntmps82
  go_wp2_with (first
    | (go_at_call 115; refine (HFr.out _).mono ?_; rintro r w1 ⟨rfl, hb⟩; have HB1 : Hid (Below w.heap.size w w1) := hb; clear hb)
    | (go_at_call 116; refine (HFa.out _ HB1.out).mono ?_; rintro r w2 ⟨rfl, hb⟩; have HB2 : Hid (Below w.heap.size w w2) := HB1.out.trans (hb.mono HB1.out.size); clear hb)
    | (go_at_call 33; refine (HW.out _ HB2.out).mono ?_; rintro r w3 ⟨rfl, hD, hF⟩; have HD3 : Hid _ := hD; have HF3 : Hid (FrD Xm B w w3) := (FrD.new HB2.out).trans hF; clear hD hF)
    | (go_at_call 34; have _t := t1; clear t1; refine (HS1.out _ HD3.out HF3.out).mono ?_; rintro r w4 ⟨rfl, hD, hF⟩; have HD4 : Hid _ := hD; have HF4 : Hid (FrD Xm B w w4) := HF3.out.trans hF; clear hD hF)
    | (go_at_call 117; refine (HM.out _ (Nat.le_trans HB0.out HF4.out.size) HD4.out HF4.out).mono ?_; rintro r w5 ⟨rfl, hD, hF⟩; have HD5 : Hid _ := hD; have HF5 : Hid (FrD Xm B w w5) := HF4.out.trans hF; clear hD hF)
    | (go_at_call 34; refine (HS2.out _ HD5.out HF5.out).mono ?_; rintro r w6 ⟨rfl, hD, hF⟩; have HD6 : Hid _ := hD; have HF6 : Hid (FrD Xm B w w6) := HF5.out.trans hF; clear hD hF))
  go_ret
  exact ⟨rfl, HD6.out, HF6.out⟩
theorem makeAnew_any (h : DkAt Xm w B p A) (hB : B ≤ w.heap.size) (hc : Cl A M k) (hM : M ≤ 2305843009213693952) (hk : k ≤ 90000) (hv : TxS w v R) (hR : (frs R).length ≤ 1000000) (hs : snap.length + 10 ≤ 140737488355328) (hF : (frs (snap :: R)).length ≤ M) : Calls Tryz.prog 82 #[.pointer (some ⟨p, 0, none⟩), .string (str snap), v] w fun r w' => r = .returned (.int .i64 0) ∧ DkAt Xm w' B p (A.anew (frs (snap :: R))) ∧ FrD Xm B w w' := by
  obtain ⟨h1, h2, _⟩ := hc.wr (F := frs (snap :: R)) hF
  exact makeAnew_core hB hv hR hs (fun W hW => cl_write (h.new hW) (Nat.le_trans hB hW.size) hc hM (by omega) hF) (fun W hD _ => cl_sync _ hD hc (by omega)) (fun W hBW hD _ => cl_move hD hBW h1 hM (by omega) h2) (fun W hD _ => cl_sync _ hD h1 (by omega))
end
end Go.Proofs.YtnhjflebaeokeaaGreat
end
