import Derived.Test.YtnhijofnhflklaaGreatMuCmpM
import Derived.Test.YtnhijofnhflklaaGreatNumM
import Derived.Test.YtnhijofnhflklaaGreatProg
import Derived.Laws.BitsAllLaws
import Derived.WalkKit
import Derived.WalkSpells
import Derived.WalkLawsBesides
import Derived.Deep.QuietTactic
import Derived.BigQuiet
import Derived.Deep.RegionWith
import Derived.Laws.ResultCell
import Derived.Lib.SlBytesRow
section
/- Requests in their order: slices.SortFunc of a row of one's own. -/
namespace Go.Proofs.YtnhijofnhflklaaGreat
open Go.RowKit Go.Sort
/-- A row of requests of one's own. -/
def UO (w : World) (base : Nat) (v : Value) (L : List Mu) : Prop := w.ownsRow base 95 4 v L.length (L.flatMap muCells)
theorem mu_len (L : List Mu) : (L.flatMap muCells).length = L.length * 4 := by
  induction L with
  | nil => rfl
  | cons x L ih => rw [List.flatMap_cons, List.length_append, ih]; simp [muCells]; omega
theorem muOne (y : Mu) : ∀ u ∈ muCells y, u.oneCell' = true := by
  intro u hu
  simp [muCells] at hu
  rcases hu with rfl | rfl | rfl | rfl <;> rfl
theorem musOne (L : List Mu) : ∀ u ∈ L.flatMap muCells, u.oneCell' = true := by
  intro u hu
  obtain ⟨y, _, hy⟩ := List.mem_flatMap.1 hu
  exact muOne y u hy
theorem cellsU_get (L : List Mu) (j : Nat) (h : j < L.length) : (L.flatMap muCells)[j * 4]? = some (.int .i64 L[j].k) ∧ (L.flatMap muCells)[j * 4 + 1]? = some (.int .i64 L[j].i) ∧ (L.flatMap muCells)[j * 4 + 2]? = some (.int .i64 L[j].t) ∧ (L.flatMap muCells)[j * 4 + 3]? = some (.int .i64 L[j].v) := by
  have e : L = L.take j ++ L[j] :: L.drop (j + 1) := by rw [← List.drop_eq_getElem_cons h, List.take_append_drop]
  have hl : ((L.take j).flatMap muCells).length = j * 4 := by rw [mu_len, List.length_take]; omega
  generalize hx : L[j] = x at e
  rw [e, List.flatMap_append, List.flatMap_cons]
  refine ⟨?_, ?_, ?_, ?_⟩ <;> (rw [List.getElem?_append_right (by omega), hl]; simp [muCells])
theorem flatU_at (L : List Mu) (q r : Nat) (hq : q < L.length) (hr : r < 4) : (L.flatMap muCells)[q * 4 + r]? = (muCells L[q])[r]? := by
  obtain ⟨a0, a1, a2, a3⟩ := cellsU_get L q hq
  match r, hr with
  | 0, _ => rw [Nat.add_zero, a0]; rfl
  | 1, _ => rw [a1]; rfl
  | 2, _ => rw [a2]; rfl
  | 3, _ => rw [a3]; rfl
theorem flatU_get (L : List Mu) (t : Nat) (h : t < L.length * 4) : (L.flatMap muCells)[t]? = (muCells (L[t / 4]'(by omega)))[t % 4]? := by
  rw [← flatU_at L (t / 4) (t % 4) (by omega) (by omega)]
  congr 1
  omega
theorem flatKU_list [Inhabited Mu] (L : List Mu) : flatK muCells 4 L.toArray = (L.flatMap muCells).toArray := by
  apply Array.ext
  · rw [size_flatK, List.size_toArray, List.size_toArray, mu_len]
  · intro t h1 h2
    rw [size_flatK, List.size_toArray] at h1
    have e := get_flatK muCells 4 L.toArray t (by simpa using h1)
    rw [getElem!_pos _ t (by rw [size_flatK]; simpa using h1)] at e
    rw [e, List.getElem_toArray]
    have hj : t / 4 < L.length := by omega
    have e2 := flatU_get L t h1
    rw [List.getElem?_eq_getElem (by rw [mu_len]; exact h1)] at e2
    have e3 : L.toArray[t / 4]! = L[t / 4] := by rw [getElem!_pos L.toArray (t / 4) (by simpa using hj)]; simp
    rw [e3]
    have h4 : t % 4 < (muCells L[t / 4]).length := by simp [muCells]; omega
    rw [getElem!_pos (muCells L[t / 4]) (t % 4) h4]
    rw [List.getElem?_eq_getElem h4] at e2
    exact (Option.some.inj e2).symm
theorem take_putU (cur : Array Value) (xs : List Value) (h : xs.length ≤ cur.size) : (putCells id 0 xs.toArray cur).toList.take xs.length = xs := by
  apply List.ext_getElem?
  intro j
  by_cases hj : j < xs.length
  · rw [List.getElem?_take_of_lt hj, Array.getElem?_toList]
    simp [putCells, hj, show j < cur.size by omega]
  · rw [List.getElem?_take_eq_none (by omega), List.getElem?_eq_none (by omega)]
theorem sortedU_heap [Inhabited Mu] {w : World} {g n : Nat} {os : Array Obj} {cur : Array Value} {e : TypeId} (L : List Mu) (hb : w.heap[g]? = some (.cells cur e (0, 0))) :
    (sortWorldK muCells 4 w g 0 n L.toArray os).heap[g]? = some (.cells (putCells id 0 (L.flatMap muCells).toArray cur) e (0, 0)) := by
  have hg : g < w.heap.size := (Array.getElem?_eq_some_iff.1 hb).1
  unfold sortWorldK putRowK
  rw [heap_grow_old _ _ (by simpa using hg), flatKU_list]
  simp [putRow, mapBlock, Sort.ahead, Array.getElem?_modify, hb, onCells]
theorem sortedU_grown [Inhabited Mu] {w : World} {g n : Nat} {os : Array Obj} (d : Array Mu) : w.grownBy (sortWorldK muCells 4 w g 0 n d os) (some g) := by
  refine ⟨rfl, rfl, rfl, by simp [sortWorldK, putRowK], fun k hk hne => ?_⟩
  unfold sortWorldK putRowK
  rw [heap_grow_old _ _ (by simpa using hk)]
  have : g ≠ k := fun e => hne (by rw [e])
  simp [putRow, mapBlock, Sort.ahead, Array.getElem?_modify, this]
theorem lt_cmpU (x y : Mu) : ltOf cmpU x y = ult x y := cmpU_lt x y
theorem cmpU_swo : SWO (ltOf cmpU) where
  irrefl x := by rw [lt_cmpU]; exact ult_irrefl x
  trans x y z h1 h2 := by rw [lt_cmpU] at *; exact ult_trans x y z h1 h2
  ntrans x y z h1 h2 := by rw [lt_cmpU] at *; exact ult_ntrans x y z h1 h2
theorem cmpU_total (x y : Mu) (h : ltOf cmpU x y = false) (h' : ltOf cmpU y x = false) : x = y := by
  rw [lt_cmpU] at *
  exact ult_total x y h h'
theorem merge_sortU (L : List Mu) : (L.mergeSort fun x y => !ltOf cmpU y x) = sortU L := by
  unfold sortU
  congr 1
  funext x y
  unfold ule
  rw [lt_cmpU]
theorem aggMu : ∀ w, (isAgg 95).run Tryz.prog w = .ok true w := Tryz.isAgg95
theorem sizeMu : ∀ w, (Go.sizeOf 95).run Tryz.prog w = .ok 4 w := Tryz.sizeOf95
theorem cmpU_enters : ∀ args w, (callFunc 180 args).run Tryz.prog w = .ok (.enter 180 args) w := enters_of Tryz.func180 (by kernel_rfl) rfl
theorem holds_mus [Inhabited Mu] {w : World} {base g n cap : Nat} {L : List Mu} (h : UO w base (.slice (some ⟨g, 0, none⟩) n cap) L) : HoldsK muCells 4 w g 0 L.toArray := by
  intro j hj
  rw [flatKU_list] at hj ⊢
  rw [List.size_toArray] at hj
  have hc : w.cell? ⟨g, 0 + j, none⟩ = some (L.flatMap muCells)[j] := by
    have := World.ownsRow.cells h (g := g) rfl j _ (List.getElem?_eq_getElem hj)
    by_cases e : j = 0
    · subst e; simpa [Addr.add] using this
    · simpa [Addr.add, e] using this
  refine ⟨?_, ?_⟩
  · rw [hc, getElem!_pos _ _ (by simpa using hj)]; simp
  · rcases h.2 with ⟨h1, _⟩ | ⟨g', cap', cur, h1, _, hg, _⟩
    · cases h1
    · cases h1
      simp [World.frozen?, hg]
/-- slices.SortFunc of a row of one's own, not empty. -/
theorem sortFU_any {w : World} {base g cap : Nat} {L : List Mu} (h : UO w base (.slice (some ⟨g, 0, none⟩) L.length cap) L) (hs : L.length < 4611686018427387904) :
    Calls Tryz.prog 179 #[.slice (some ⟨g, 0, none⟩) L.length cap, .func (.func 180) #[] #[]] w fun e w' => e = .returned (.tuple #[]) ∧ UO w' base (.slice (some ⟨g, 0, none⟩) L.length cap) (sortU L) ∧ w.grownBy w' (some g) := by
  haveI : Inhabited Mu := ⟨⟨0, 0, 0, 0⟩⟩
  have hcon := AnyQ.slices_SortFunc_total layU 4 aggMu sizeMu muCells (fun _ => rfl) (fun x => muOne x) cmpU cmpU_swo 180 #[] g 0 cap L.toArray w cmpU_enters (fun _ _ _ _ x y => compare_mu x y _) (holds_mus h) (World.ownsRow.lt h g rfl).2 (by simpa using hs) cmpU_total
  change Calls Tryz.prog 179 _ _ _ at hcon
  rw [List.size_toArray, merge_sortU] at hcon
  refine hcon.mono ?_
  rintro e w' ⟨rfl, n, os, rfl⟩
  refine ⟨rfl, ?_, sortedU_grown _⟩
  rcases h.2 with ⟨h1, _⟩ | ⟨g', cap', cur, h1, h2, hg, hn, hc, hcs, ht⟩
  · cases h1
  · cases h1
    refine ⟨mu_len _, Or.inr ⟨g, cap, _, by rw [sortU_len], h2, sortedU_heap _ hg, by rw [sortU_len]; exact hn, hc, by simp [putCells, hcs], ?_⟩⟩
    have := take_putU cur ((sortU L).flatMap muCells) (by rw [mu_len, sortU_len, hcs]; exact Nat.mul_le_mul_right _ hn)
    rwa [mu_len] at this
end Go.Proofs.YtnhijofnhflklaaGreat
end

section
/- Plain mathematics of reading a number off bytes: what is read, how many bytes it has, the error; nothing of the program is named here. -/
namespace Go.Proofs.YtnhijofnhflklaaGreat

/-- The number at the front, its size, the error: f bytes may still come, i came already, acc is what they make. -/
def pgo : Nat → Nat → Nat → List UInt8 → Nat × Nat × Nat
  | 0, _, _, _ => (0, 0, 6)
  | _ + 1, _, _, [] => (0, 0, 4)
  | f + 1, i, acc, b :: l =>
    if 128 ≤ b.toNat then pgo f (i + 1) (acc + b.toNat % 128 * 128 ^ i) l
    else if (0 < i ∧ b.toNat = 0) ∨ (i = 9 ∧ 1 < b.toNat) then (0, 0, 6)
    else (acc + b.toNat * 128 ^ i, i + 1, 0)
def pnum (l : List UInt8) : Nat × Nat × Nat := pgo 10 0 0 l

theorem pgo_hi {f i acc : Nat} {b : UInt8} {l : List UInt8} (h : 128 ≤ b.toNat) : pgo (f + 1) i acc (b :: l) = pgo f (i + 1) (acc + b.toNat % 128 * 128 ^ i) l := by simp [pgo, h]
theorem pgo_bad {f i acc : Nat} {b : UInt8} {l : List UInt8} (h : ¬ 128 ≤ b.toNat) (k : (0 < i ∧ b.toNat = 0) ∨ (i = 9 ∧ 1 < b.toNat)) : pgo (f + 1) i acc (b :: l) = (0, 0, 6) := by rw [pgo, if_neg h, if_pos k]
theorem pgo_end {f i acc : Nat} {b : UInt8} {l : List UInt8} (h : ¬ 128 ≤ b.toNat) (k : ¬ ((0 < i ∧ b.toNat = 0) ∨ (i = 9 ∧ 1 < b.toNat))) : pgo (f + 1) i acc (b :: l) = (acc + b.toNat * 128 ^ i, i + 1, 0) := by rw [pgo, if_neg h, if_neg k]

theorem pow_le9 {i : Nat} (h : i ≤ 9) : 128 ^ i ≤ 9223372036854775808 := Nat.le_trans (Nat.pow_le_pow_right (by decide) h) (by decide)
theorem pow_le8 {i : Nat} (h : i ≤ 8) : 128 ^ i ≤ 72057594037927936 := Nat.le_trans (Nat.pow_le_pow_right (by decide) h) (by decide)
theorem acc_step {i acc b : Nat} (h : acc < 128 ^ i) (hb : b < 128) : acc + b * 128 ^ i < 128 ^ (i + 1) := by
  have : b * 128 ^ i ≤ 127 * 128 ^ i := Nat.mul_le_mul_right _ (by omega)
  rw [Nat.pow_succ]; omega

/-- What is read has its bytes, is a number of 64 bits, and its size is what is taken; an error is 4 or 6, with nothing read. -/
theorem pgo_cases (f : Nat) : ∀ (i acc : Nat) (l : List UInt8), i + f = 10 → acc < 128 ^ i →
    (∃ n k, pgo f i acc l = (n, k, 0) ∧ i < k ∧ k ≤ i + l.length ∧ k ≤ 10 ∧ n < 18446744073709551616) ∨ pgo f i acc l = (0, 0, 4) ∨ pgo f i acc l = (0, 0, 6) := by
  induction f with
  | zero => intro i acc l _ _; right; right; cases l <;> rfl
  | succ f ih =>
    intro i acc l hi ha
    cases l with
    | nil => right; left; rfl
    | cons b l =>
      by_cases h : 128 ≤ b.toNat
      · rw [pgo_hi h]
        rcases ih (i + 1) _ l (by omega) (acc_step ha (Nat.mod_lt b.toNat (by decide))) with ⟨n, k, e, h1, h2, h3, h4⟩ | e | e
        · left; exact ⟨n, k, e, by omega, by simp; omega, h3, h4⟩
        · right; left; exact e
        · right; right; exact e
      · by_cases k : (0 < i ∧ b.toNat = 0) ∨ (i = 9 ∧ 1 < b.toNat)
        · right; right; exact pgo_bad h k
        · left
          refine ⟨_, _, pgo_end h k, by omega, by simp, by omega, ?_⟩
          by_cases h9 : i = 9
          · subst h9
            have hb : b.toNat ≤ 1 := by omega
            have := pow_le9 (Nat.le_refl 9)
            have h2 : b.toNat * 128 ^ 9 ≤ 1 * 128 ^ 9 := Nat.mul_le_mul_right _ hb
            omega
          · have h2 := acc_step ha (show b.toNat < 128 by omega)
            have h3 := pow_le9 (i := i + 1) (by omega)
            omega
theorem pnum_cases (l : List UInt8) : (∃ n k, pnum l = (n, k, 0) ∧ 0 < k ∧ k ≤ l.length ∧ k ≤ 10 ∧ n < 18446744073709551616) ∨ pnum l = (0, 0, 4) ∨ pnum l = (0, 0, 6) := by
  rcases pgo_cases 10 0 0 l rfl (by decide) with ⟨n, k, e, h1, h2, h3, h4⟩ | e | e
  · left; exact ⟨n, k, e, h1, by omega, h3, h4⟩
  · right; left; exact e
  · right; right; exact e

/-- What is read are just the number's bytes; nothing but bytes of a number is read as one. -/
theorem pgo_only (f : Nat) : ∀ (i acc : Nat) (l : List UInt8) (n k : Nat), pgo f i acc l = (n, k, 0) → i + f = 10 →
    ∃ m, n = acc + m * 128 ^ i ∧ l.take (k - i) = numB m ∧ (0 < i → 0 < m) ∧ i < k := by
  induction f with
  | zero => intro i acc l n k h; cases l <;> simp [pgo] at h
  | succ f ih =>
    intro i acc l n k h hi
    cases l with
    | nil => simp [pgo] at h
    | cons b l =>
      by_cases hb : 128 ≤ b.toNat
      · rw [pgo_hi hb] at h
        obtain ⟨m, h1, h2, h3, h4⟩ := ih _ _ _ _ _ h (by omega)
        have hbl := b.toNat_lt
        have hm : 0 < m := h3 (by omega)
        refine ⟨b.toNat % 128 + 128 * m, ?_, ?_, fun _ => by omega, by omega⟩
        · rw [h1, Nat.pow_succ, Nat.add_mul]
          have : 128 * m * 128 ^ i = m * (128 ^ i * 128) := by rw [Nat.mul_comm 128 m, Nat.mul_assoc, Nat.mul_comm 128]
          omega
        · have e1 : k - i = (k - (i + 1)) + 1 := by omega
          have e2 : (b.toNat % 128 + 128 * m) / 128 = m := by omega
          have e3 : (b.toNat % 128 + 128 * m) % 128 + 128 = b.toNat := by omega
          have e4 : ¬ (b.toNat % 128 + 128 * m) < 128 := by omega
          rw [e1, List.take_succ_cons, h2, numB_hi e4, e2, e3]; simp
      · by_cases kk : (0 < i ∧ b.toNat = 0) ∨ (i = 9 ∧ 1 < b.toNat)
        · rw [pgo_bad hb kk] at h; simp at h
        · rw [pgo_end hb kk] at h
          simp only [Prod.mk.injEq] at h
          obtain ⟨rfl, rfl, _⟩ := h
          refine ⟨b.toNat, rfl, ?_, fun _ => by omega, by omega⟩
          rw [show i + 1 - i = 1 by omega, numB_lo (by omega)]
          simp
theorem pnum_only {l : List UInt8} {n k : Nat} (h : pnum l = (n, k, 0)) : l.take k = numB n := by
  obtain ⟨m, h1, h2, _, _⟩ := pgo_only 10 0 0 l n k h rfl
  simp at h1 h2
  rw [h1]; exact h2

/-- The bytes of a number are read as it, whatever follows. -/
theorem pgo_num (f : Nat) : ∀ (i acc m : Nat) (l : List UInt8), i + f = 10 → (0 < i → 0 < m) → m * 128 ^ i < 18446744073709551616 →
    pgo f i acc (numB m ++ l) = (acc + m * 128 ^ i, i + (numB m).length, 0) := by
  induction f with
  | zero =>
    intro i acc m l hi hm hl
    obtain rfl : i = 10 := by omega
    have : m = 0 := by
      have h10 : (128 : Nat) ^ 10 = 1180591620717411303424 := by decide
      rw [h10] at hl; omega
    have := hm (by omega)
    omega
  | succ f ih =>
    intro i acc m l hi hm hl
    by_cases h : m < 128
    · rw [numB_lo h, List.singleton_append, pgo_end]
      · rw [UInt8.toNat_ofNat', show m % 2 ^ 8 = m by omega]; rfl
      · rw [UInt8.toNat_ofNat', show m % 2 ^ 8 = m by omega]; omega
      · rw [UInt8.toNat_ofNat', show m % 2 ^ 8 = m by omega]
        rintro (⟨a, b⟩ | ⟨rfl, b⟩)
        · have := hm a; omega
        · have h9 : (128 : Nat) ^ 9 = 9223372036854775808 := by decide
          rw [h9] at hl; omega
    · have e1 : (UInt8.ofNat (m % 128 + 128)).toNat = m % 128 + 128 := by rw [UInt8.toNat_ofNat']; omega
      have e3 : (m % 128 + 128) % 128 = m % 128 := by omega
      have hm' : m = m / 128 * 128 + m % 128 := by omega
      have e4 : m * 128 ^ i = m / 128 * (128 ^ i * 128) + m % 128 * 128 ^ i := by
        conv => lhs; rw [hm', Nat.add_mul, Nat.mul_assoc, Nat.mul_comm 128]
      rw [numB_hi h, List.cons_append, pgo_hi (by rw [e1]; omega), ih (i + 1) _ (m / 128) l (by omega) (fun _ => by omega) (by rw [Nat.pow_succ]; omega), e1, e3]
      simp only [List.length_cons, Prod.mk.injEq, and_true]
      exact ⟨by rw [Nat.pow_succ]; omega, by omega⟩
theorem pnum_num {m : Nat} (l : List UInt8) (h : m < 18446744073709551616) : pnum (numB m ++ l) = (m, (numB m).length, 0) := by
  have := pgo_num 10 0 0 m l rfl (by omega) (by simpa using h)
  unfold pnum; simpa using this
end Go.Proofs.YtnhijofnhflklaaGreat
end

section
/- What parseNumber returns: the number at the front of bytes, its size, the error; the world stands. -/
namespace Go.Proofs.YtnhijofnhflklaaGreat
open Go.RowKit

theorem and127 (b : UInt8) : bits .and .u8 (b.toNat : Int) 127 = ((b.toNat % 128 : Nat) : Int) := by
  have h := u8_and_nat b.toNat 127 (by have := b.toNat_lt; omega) (by decide)
  rw [nat_mask7] at h; exact h
theorem drop_cons (s : ByteArray) (k : Nat) (h : k < s.size) : s.data.toList.drop k = s[k] :: s.data.toList.drop (k + 1) := by
  rw [List.drop_eq_getElem_cons (by simpa using h)]; rfl
theorem or_shift {i acc b : Nat} (h : acc < 128 ^ i) (hi : i ≤ 9) (hx : b * 128 ^ i < 18446744073709551616) : bits .or .u64 (acc : Int) ((b * 128 ^ i : Nat) : Int) = ((acc + b * 128 ^ i : Nat) : Int) := by
  have h9 := pow_le9 hi
  rw [u64_or_nat acc (b * 128 ^ i) (by omega) hx]
  congr 1
  have e : (128 : Nat) ^ i = 2 ^ (7 * i) := by rw [Nat.pow_mul]
  rw [Nat.or_comm, nat_join (7 * i) (b * 128 ^ i) acc (by rw [e]; exact Nat.mul_mod_left _ _) (by rw [← e]; exact h), Nat.add_comm]

theorem or_sh {k acc b : Nat} (h : acc < 128 ^ k) (hk : k ≤ 9) (hx : b % 128 * 128 ^ k < 18446744073709551616) : bits .or .u64 (acc : Int) (IntKind.u64.wrap ((b : Int) % 128 * 2 ^ (7 * k))) = ((acc + b % 128 * 128 ^ k : Nat) : Int) := by
  have e : (b : Int) % 128 * 2 ^ (7 * k) = ((b % 128 * 128 ^ k : Nat) : Int) := by
    have : (128 : Nat) ^ k = 2 ^ (7 * k) := by rw [Nat.pow_mul]
    rw [this]; simp
  rw [e, IntKind.wrap_u64, Int.emod_eq_of_lt (by omega) (by omega)]
  exact or_shift h hk hx
theorem ret_p {l : List UInt8} {a b c : Nat} {x y z : Int} (h : pnum l = (a, b, c)) (hx : x = a) (hy : y = b) (hz : z = c) :
    Ending.returned (.tuple #[.int .u64 x, .int .i64 y, .int .i64 z]) = .returned (.tuple #[.int .u64 (pnum l).1, .int .i64 (pnum l).2.1, .int .i64 (pnum l).2.2]) := by rw [h, hx, hy, hz]
theorem small_sh {k b : Nat} (hk : k ≤ 8) : b % 128 * 128 ^ k < 18446744073709551616 := by
  have h := pow_le8 hk
  have : b % 128 * 128 ^ k ≤ 127 * 128 ^ k := Nat.mul_le_mul_right _ (by omega)
  omega
theorem one_sh {k b : Nat} (hk : k ≤ 9) (hb : b ≤ 1) : b % 128 * 128 ^ k < 18446744073709551616 := by
  have h := pow_le9 hk
  have : b % 128 * 128 ^ k ≤ 1 * 128 ^ k := Nat.mul_le_mul_right _ (by omega)
  omega

set_option maxRecDepth 100000 in
set_option maxHeartbeats 400000 in
theorem parse_any (s : ByteArray) (w : World) (hs : s.size ≤ maxLen) :
    Calls Tryz.prog 153 #[.string s] w fun e w' => e = .returned (.tuple #[.int .u64 (pnum s.data.toList).1, .int .i64 (pnum s.data.toList).2.1, .int .i64 (pnum s.data.toList).2.2]) ∧ w' = w := by
  unfold maxLen at hs
  go_enter Tryz.func153, Tryz.ntmps153
  go_wp2
  go_loop [5, 8] (fun c i => ∃ (k : Nat) (x : Int) (acc : Nat), k ≤ 10 ∧ k ≤ s.size ∧ i = .int .i64 k ∧ c = .int .u64 x ∧ (k ≤ 9 → x = acc) ∧ acc < 128 ^ k ∧ pgo (10 - k) k acc (s.data.toList.drop k) = pnum s.data.toList) (fun _ i => 10 - (intOf i).toNat)
  case atStart => exact ⟨0, 0, 0, by omega, by omega, rfl, rfl, fun _ => rfl, by decide, rfl⟩
  case round =>
    obtain ⟨k, x, acc, hk, hks, rfl, rfl, hx, hacc, hp⟩ := hrel
    have HP : Hid (pgo (10 - k) k acc (s.data.toList.drop k) = pnum s.data.toList) := hp
    clear hp
    by_cases h10 : k < 10
    · obtain rfl := hx (by omega)
      clear hx
      by_cases hend : k = s.size
      · have e : pnum s.data.toList = (0, 0, 4) := by
          rw [← HP.out, show 10 - k = (9 - k) + 1 by omega, List.drop_eq_nil_of_le (by simp; omega)]; rfl
        have HE : Hid (pnum s.data.toList = (0, 0, 4)) := e
        clear e
        go_wp2
        go_ret3
        exact ⟨ret_p HE.out rfl rfl rfl, rfl⟩
      · have hlt : k < s.size := by omega
        have hbl := s[k].toNat_lt
        have ha := and127 s[k]
        have HD : Hid (pgo ((9 - k) + 1) k acc (s[k] :: s.data.toList.drop (k + 1)) = pnum s.data.toList) := by
          show _ = _
          rw [← HP.out, show 10 - k = (9 - k) + 1 by omega, drop_cons s k hlt]
        by_cases hhi : 128 ≤ s[k].toNat
        · go_wp2
          go_round
          case rel => exact ⟨k + 1, _, acc + s[k].toNat % 128 * 128 ^ k, by omega, by omega, by go_num, rfl, fun h9 => or_sh hacc (by omega) (small_sh (by omega)), acc_step hacc (Nat.mod_lt _ (by decide)), by rw [← HD.out, pgo_hi hhi, show 10 - (k + 1) = 9 - k by omega]⟩
          case measure => simp [intOf]; omega
        · rcases (show (0 < k ∧ s[k].toNat = 0) ∨ (0 < k ∧ 1 < s[k].toNat ∧ 9 ≤ k) ∨ (0 < k ∧ 0 < s[k].toNat ∧ s[k].toNat ≤ 1 ∧ 9 ≤ k) ∨ (0 < k ∧ 0 < s[k].toNat ∧ k < 9) ∨ k < 1 from by omega) with ⟨c1, c2⟩ | ⟨c1, c2, c3⟩ | ⟨c1, c2, c3, c4⟩ | ⟨c1, c2, c3⟩ | c1
          · have HE : Hid (pnum s.data.toList = (0, 0, 6)) := HD.out.symm.trans (pgo_bad hhi (by omega))
            go_wp2
            go_ret3
            exact ⟨ret_p HE.out rfl rfl rfl, rfl⟩
          · have HE : Hid (pnum s.data.toList = (0, 0, 6)) := HD.out.symm.trans (pgo_bad hhi (by omega))
            go_wp2
            go_ret3
            exact ⟨ret_p HE.out rfl rfl rfl, rfl⟩
          · have HE : Hid (pnum s.data.toList = (acc + s[k].toNat * 128 ^ k, k + 1, 0)) := HD.out.symm.trans (pgo_end hhi (by omega))
            have HO : Hid _ := or_sh (b := s[k].toNat) hacc (by omega) (one_sh (by omega) c3)
            have z0 : ((s[k].toNat : Int) == 0) = false := by simp; omega
            go_wp2
            go_ret3
            exact ⟨ret_p HE.out (by rw [HO.out, Nat.mod_eq_of_lt (by omega)]) (by omega) rfl, rfl⟩
          · have HE : Hid (pnum s.data.toList = (acc + s[k].toNat * 128 ^ k, k + 1, 0)) := HD.out.symm.trans (pgo_end hhi (by omega))
            have HO : Hid _ := or_sh (b := s[k].toNat) hacc (by omega) (small_sh (by omega))
            go_wp2
            go_ret3
            exact ⟨ret_p HE.out (by rw [HO.out, Nat.mod_eq_of_lt (by omega)]) (by omega) rfl, rfl⟩
          · have HE : Hid (pnum s.data.toList = (acc + s[k].toNat * 128 ^ k, k + 1, 0)) := HD.out.symm.trans (pgo_end hhi (by omega))
            have HO : Hid _ := or_sh (b := s[k].toNat) hacc (by omega) (small_sh (by omega))
            go_wp2
            go_ret3
            exact ⟨ret_p HE.out (by rw [HO.out, Nat.mod_eq_of_lt (by omega)]) (by omega) rfl, rfl⟩
    · have HE : Hid (pnum s.data.toList = (0, 0, 6)) := by
        show _ = _
        rw [← HP.out, show 10 - k = 0 by omega]; cases List.drop k s.data.toList <;> rfl
      go_wp2
      go_ret3
      exact ⟨ret_p HE.out rfl rfl rfl, rfl⟩
end Go.Proofs.YtnhijofnhflklaaGreat
end

section
/- What a reader's Err, At, Left and next do to the reader that they are called on. -/
namespace Go.Proofs.YtnhijofnhflklaaGreat
open Go.RowKit

/-- A reader lies at block p: its bytes, how many were taken, its error. -/
def Rd (w : World) (p : Nat) (s : ByteArray) (a e : Int) : Prop := w.heap[p]? = some (.cells #[.string s, .int .i64 a, .int .i64 e] 134 (0, 0))
section
variable {w : World} {p : Nat} {s : ByteArray} {a e : Int}
theorem Rd.c0 (h : Rd w p s a e) : w.cell? ⟨p, 0, none⟩ = some (.string s) := by unfold Rd at h; simp [World.cell?, h]
theorem Rd.c1 (h : Rd w p s a e) : w.cell? ⟨p, 1, none⟩ = some (.int .i64 a) := by unfold Rd at h; simp [World.cell?, h]
theorem Rd.c2 (h : Rd w p s a e) : w.cell? ⟨p, 2, none⟩ = some (.int .i64 e) := by unfold Rd at h; simp [World.cell?, h]
theorem Rd.f1 (h : Rd w p s a e) : w.frozen? ⟨p, 1, none⟩ = false := by unfold Rd at h; simp [World.frozen?, h]
theorem Rd.f2 (h : Rd w p s a e) : w.frozen? ⟨p, 2, none⟩ = false := by unfold Rd at h; simp [World.frozen?, h]
theorem Rd.lt (h : Rd w p s a e) : p < w.heap.size := lt_of_block h
theorem Rd.set1 (h : Rd w p s a e) (b : Int) : Rd (w.setCell ⟨p, 1, none⟩ (.int .i64 b)) p s b e := by
  have hlt := h.lt
  have h' : w.heap[p] = .cells #[.string s, .int .i64 a, .int .i64 e] 134 (0, 0) := by unfold Rd at h; simpa [Array.getElem?_eq_getElem hlt] using h
  show (w.heap.modify p _)[p]? = _
  rw [Array.getElem?_eq_getElem (by simpa using hlt), Array.getElem_modify_self, h']
  rfl
theorem Rd.set2 (h : Rd w p s a e) (b : Int) : Rd (w.setCell ⟨p, 2, none⟩ (.int .i64 b)) p s a b := by
  have hlt := h.lt
  have h' : w.heap[p] = .cells #[.string s, .int .i64 a, .int .i64 e] 134 (0, 0) := by unfold Rd at h; simpa [Array.getElem?_eq_getElem hlt] using h
  show (w.heap.modify p _)[p]? = _
  rw [Array.getElem?_eq_getElem (by simpa using hlt), Array.getElem_modify_self, h']
  rfl
theorem Rd.kept (h : Rd w p s a e) {w' : World} {S : Nat → Prop} (f : Fr w w' S) (hn : ¬ S p) : Rd w' p s a e := (f.block p h.lt hn).trans h
theorem Rd.below (h : Rd w p s a e) {w' : World} (b : Below w.heap.size w w') : Rd w' p s a e := (b.block p h.lt).trans h
end

theorem err_any {w : World} {p : Nat} {s : ByteArray} {a e : Int} (h : Rd w p s a e) :
    Calls Tryz.prog 63 #[.pointer (some ⟨p, 0, none⟩)] w fun r w' => r = .returned (.int .i64 e) ∧ w' = w := by
  have c2 := h.c2
  go_enter Tryz.func63, Tryz.ntmps63
  go_wp2
  go_ret
  exact ⟨rfl, rfl⟩
theorem left_any {w : World} {p : Nat} {s : ByteArray} {a : Nat} {e : Int} (h : Rd w p s a e) (hs : s.size ≤ maxLen) (ha : a ≤ s.size) :
    Calls Tryz.prog 27 #[.pointer (some ⟨p, 0, none⟩)] w fun r w' => r = .returned (.int .i64 (s.size - a)) ∧ ∃ n, w' = w.drewN n := by
  unfold maxLen at hs
  have c0 := h.c0
  have c1 := h.c1
  go_enter Tryz.func27, Tryz.ntmps27
  go_wp2
  go_quiet (fail)
  go_wp2
  go_ret
  exact ⟨rfl, nq, rfl⟩

theorem ext_data (s : ByteArray) (a : Nat) : (s.extract a s.size).data.toList = s.data.toList.drop a := by
  simp [List.take_of_length_le]
theorem ext_size (s : ByteArray) (a : Nat) (hs : s.size ≤ maxLen) : (s.extract a s.size).size ≤ maxLen := by
  rw [ByteArray.size_extract]; omega
theorem parse_ext {s : ByteArray} {a n k x : Nat} (w : World) (hs : s.size ≤ maxLen) (hp : pnum (s.data.toList.drop a) = (n, k, x)) :
    Calls Tryz.prog 153 #[.string (s.extract a s.size)] w fun e w' => e = .returned (.tuple #[.int .u64 n, .int .i64 k, .int .i64 x]) ∧ w' = w := by
  have h := parse_any (s.extract a s.size) w (ext_size s a hs)
  rw [ext_data, hp] at h
  exact h
theorem Rd.drewN {w : World} {p : Nat} {s : ByteArray} {a e : Int} (h : Rd w p s a e) (n : Nat) : Rd (w.drewN n) p s a e := by unfold Rd; rw [World.heap_drewN]; exact h
theorem Fr.drewN (w : World) (n : Nat) (S : Nat → Prop) : Fr w (w.drewN n) S := by
  induction n with
  | zero => exact Fr.refl _ _
  | succ n ih => exact ih.trans (Fr.drew (w.drewN n) S) (fun _ _ h => h)

set_option maxRecDepth 100000 in
theorem next_err {w : World} {p : Nat} {s : ByteArray} {a : Nat} {e : Int} (h : Rd w p s a e) (he : e ≠ 0) :
    Calls Tryz.prog 108 #[.pointer (some ⟨p, 0, none⟩)] w fun r w' => r = .returned (.tuple #[.int .u64 0, .int .i64 0, .bool false]) ∧ w' = w := by
  have he0 : (e == 0) = false := by simp; omega
  go_enter Tryz.func108, Tryz.ntmps108
  go_wp2_with (go_at_call 63; refine (err_any h).mono ?_; rintro r w1 ⟨rfl, rfl⟩)
  go_ret3
  exact ⟨rfl, rfl⟩
set_option maxRecDepth 100000 in
theorem next_bad {w : World} {p : Nat} {s : ByteArray} {a : Nat} {n k x : Nat} (h : Rd w p s a 0) (hs : s.size ≤ maxLen) (ha : a ≤ s.size) (hp : pnum (s.data.toList.drop a) = (n, k, x)) (hx : x ≠ 0) :
    Calls Tryz.prog 108 #[.pointer (some ⟨p, 0, none⟩)] w fun r w' => r = .returned (.tuple #[.int .u64 0, .int .i64 0, .bool false]) ∧ Rd w' p s a x ∧ Fr w w' (fun k => k = p) := by
  have HP : Hid (pnum (s.data.toList.drop a) = (n, k, x)) := hp
  have HS : Hid (s.size ≤ maxLen) := hs
  unfold maxLen at hs
  clear hp
  have c0 := h.c0
  have c1 := h.c1
  have f2 := h.f2
  have c2 := h.c2
  have hx0 : ((x : Int) == 0) = false := by simp; omega
  go_enter Tryz.func108, Tryz.ntmps108
  go_wp2_with (go_at_call 63; refine (err_any h).mono ?_; rintro r w1 ⟨rfl, rfl⟩)
  go_quiet ((go_at_call 153; exact Calls.quiet_of_same (parse_ext _ HS.out HP.out)))
  go_wp2
  go_ret3
  exact ⟨rfl, (h.drewN _).set2 _, (Fr.drewN _ _ _).trans (Fr.setCell (S := fun k => k = p) _ _ _ rfl) (fun _ _ h => h)⟩
set_option maxRecDepth 100000 in
theorem next_ok {w : World} {p : Nat} {s : ByteArray} {a : Nat} {n k : Nat} (h : Rd w p s a 0) (hs : s.size ≤ maxLen) (ha : a ≤ s.size) (hp : pnum (s.data.toList.drop a) = (n, k, 0)) (hk : a + k ≤ s.size) :
    Calls Tryz.prog 108 #[.pointer (some ⟨p, 0, none⟩)] w fun r w' => r = .returned (.tuple #[.int .u64 n, .int .i64 (a + k), .bool true]) ∧ ∃ n, w' = w.drewN n := by
  have HP : Hid (pnum (s.data.toList.drop a) = (n, k, 0)) := hp
  have HS : Hid (s.size ≤ maxLen) := hs
  unfold maxLen at hs
  clear hp
  have c0 := h.c0
  have c1 := h.c1
  have c2 := h.c2
  go_enter Tryz.func108, Tryz.ntmps108
  go_wp2_with (go_at_call 63; refine (err_any h).mono ?_; rintro r w1 ⟨rfl, rfl⟩)
  go_quiet ((go_at_call 153; exact Calls.quiet_of_same (parse_ext _ HS.out HP.out)))
  go_wp2
  go_quiet (fail)
  go_wp2
  go_ret3
  exact ⟨rfl, _, World.drewN_drewN _ _ _⟩
end Go.Proofs.YtnhijofnhflklaaGreat
end

section
/- Plain mathematics of a reader: what each taking answers, how many bytes are taken behind it, the error behind it; nothing of the program is named here. -/
namespace Go.Proofs.YtnhijofnhflklaaGreat
/-- What follows where a number was read: else nothing is taken. -/
def rdWith {α : Type} (z : α) (s : ByteArray) (a : Nat) (e : Int) (f : Nat → Nat → α × Nat × Int) : α × Nat × Int :=
  if e = 0 then (if (pnum (s.data.toList.drop a)).2.2 = 0 then f (pnum (s.data.toList.drop a)).1 (pnum (s.data.toList.drop a)).2.1 else (z, a, (pnum (s.data.toList.drop a)).2.2)) else (z, a, e)
def rdNum (s : ByteArray) (a : Nat) (e : Int) : Nat × Nat × Int := rdWith 0 s a e fun n k => (n, a + k, 0)
def rdCount (s : ByteArray) (a : Nat) (e : Int) (most : Int) : Nat × Nat × Int := rdWith 0 s a e fun n k => if most < 0 ∨ most < n then (0, a, 5) else (n, a + k, 0)
def rdEnd (s : ByteArray) (a : Nat) (e : Int) : Int := if e = 0 ∧ a < s.size then 5 else e

def rdFail (e x : Int) : Int := if e = 0 then x else e
theorem rdFail_0 (x : Int) : rdFail 0 x = x := rfl
theorem rdFail_e {e : Int} (h : e ≠ 0) (x : Int) : rdFail e x = e := if_neg h
theorem rdEnd_lt {s : ByteArray} {a : Nat} (e : Int) (h : a < s.size) : rdEnd s a e = rdFail e 5 := by unfold rdEnd rdFail; simp [h]
theorem rdEnd_ge {s : ByteArray} {a : Nat} (e : Int) (h : ¬ a < s.size) : rdEnd s a e = e := by unfold rdEnd; simp [h]
theorem rd_err {α : Type} {z : α} {s : ByteArray} {a : Nat} {e : Int} {f : Nat → Nat → α × Nat × Int} (h : e ≠ 0) : rdWith z s a e f = (z, a, e) := by unfold rdWith; rw [if_neg h]
theorem rd_bad {α : Type} {z : α} {s : ByteArray} {a : Nat} {f : Nat → Nat → α × Nat × Int} {n k x : Nat} (hp : pnum (s.data.toList.drop a) = (n, k, x)) (h : x ≠ 0) : rdWith z s a 0 f = (z, a, (x : Int)) := by
  unfold rdWith; rw [if_pos rfl, hp, if_neg h]
theorem rd_ok {α : Type} {z : α} {s : ByteArray} {a : Nat} {f : Nat → Nat → α × Nat × Int} {n k : Nat} (hp : pnum (s.data.toList.drop a) = (n, k, 0)) : rdWith z s a 0 f = f n k := by
  unfold rdWith; rw [if_pos rfl, hp, if_pos rfl]
/-- The three ways of a number that is to be read. -/
theorem three (s : ByteArray) (a : Nat) (ha : a ≤ s.size) : (∃ n k, pnum (s.data.toList.drop a) = (n, k, 0) ∧ 0 < k ∧ a + k ≤ s.size ∧ k ≤ 10 ∧ n < 18446744073709551616) ∨ ∃ n k x, pnum (s.data.toList.drop a) = (n, k, x) ∧ x ≠ 0 := by
  rcases pnum_cases (s.data.toList.drop a) with ⟨n, k, h, h1, h2, h3, h4⟩ | h | h
  · left; exact ⟨n, k, h, h1, by simp at h2; omega, h3, h4⟩
  · right; exact ⟨_, _, _, h, by decide⟩
  · right; exact ⟨_, _, _, h, by decide⟩
end Go.Proofs.YtnhijofnhflklaaGreat
end

section
/- What Fold and Unfold return, in the program and in the document's words; the world stands. -/
namespace Go.Proofs.YtnhijofnhflklaaGreat
open Go.RowKit
def foldN (k : Int) : Int := if k < 0 then -2 * k - 1 else 2 * k
def unfoldN (n : Int) : Int := if n % 2 = 1 then -1 - n / 2 else n / 2
theorem unfold_fold (k : Int) : unfoldN (foldN k) = k := by unfold unfoldN foldN; split <;> split <;> omega
theorem fold_unfold (n : Int) (h : 0 ≤ n) : foldN (unfoldN n) = n := by unfold unfoldN foldN; split <;> split <;> omega
theorem fold_bd (k : Int) (h1 : -9223372036854775808 ≤ k) (h2 : k ≤ 9223372036854775807) : 0 ≤ foldN k ∧ foldN k ≤ 18446744073709551615 := by
  unfold foldN; split <;> omega
theorem unfold_bd (k : Int) (h1 : 0 ≤ k) (h2 : k ≤ 18446744073709551615) : -9223372036854775808 ≤ unfoldN k ∧ unfoldN k ≤ 9223372036854775807 := by
  unfold unfoldN; split <;> omega

theorem ret_i {k : IntKind} {a b : Int} (h : a = b) : Ending.returned (.int k a) = .returned (.int k b) := by rw [h]
theorem not_i64 (k : Int) (h1 : -9223372036854775808 ≤ k) (h2 : k ≤ 9223372036854775807) : bits .xor .i64 (-1) k = -1 - k := by
  show IntKind.i64.wrap ((BitVec.ofInt 64 (-1) ^^^ BitVec.ofInt 64 k).toNat : Int) = _
  have e : BitVec.ofInt 64 (-1) = BitVec.allOnes 64 := by decide
  rw [e, BitVec.allOnes_xor, BitVec.toNat_not, BitVec.toNat_ofInt]
  simp [IntKind.wrap, IntKind.bits, IntKind.signed]
  omega
theorem or_one (m : Int) (h1 : 0 ≤ m) (h2 : m < 18446744073709551616) (h3 : m % 2 = 0) : bits .or .u64 m 1 = m + 1 := by
  rw [u64_or m 1 h1 h2 (by decide) (by decide)]
  have : m.toNat ||| (1 : Int).toNat = m.toNat + 1 := nat_join 1 m.toNat 1 (by omega) (by decide)
  rw [this]; omega
theorem and_one64 (n : Int) (h1 : 0 ≤ n) (h2 : n ≤ 18446744073709551615) : bits .and .u64 n 1 = n % 2 := by
  rw [u64_and n 1 h1 (by omega) (by decide) (by decide), show (1 : Int).toNat = 1 from rfl, nat_mask1]; omega

theorem fold_any (k : Int) (w : World) (h1 : -9223372036854775808 ≤ k) (h2 : k ≤ 9223372036854775807) :
    Calls Tryz.prog 107 #[.int .i64 k] w fun e w' => e = .returned (.int .u64 (foldN k)) ∧ w' = w := by
  by_cases hk : k < 0
  · have hn := not_i64 k h1 h2
    go_enter Tryz.func107, Tryz.ntmps107
    go_wp2
    go_ret
    refine ⟨ret_i ?_, rfl⟩
    have e : IntKind.u64.wrap (IntKind.u64.wrap (-1 - k) * 2) = (-1 - k) * 2 := by rw [IntKind.wrap_u64, IntKind.wrap_u64]; omega
    rw [e, or_one _ (by omega) (by omega) (by omega)]
    unfold foldN; rw [if_pos hk]; omega
  · go_enter Tryz.func107, Tryz.ntmps107
    go_wp2
    go_ret
    exact ⟨ret_i (by unfold foldN; rw [if_neg (by omega)]; omega), rfl⟩
theorem reffold_any (k : Int) (w : World) (h1 : -9223372036854775808 ≤ k) (h2 : k ≤ 9223372036854775807) :
    Calls Tryz.prog 103 #[.int .i64 k] w fun e w' => e = .returned (.int .u64 (foldN k)) ∧ w' = w := by
  by_cases h : k < 0
  · go_enter Tryz.func103, Tryz.ntmps103
    go_wp2
    go_ret
    exact ⟨ret_i (by unfold foldN; rw [if_pos h]; omega), rfl⟩
  · go_enter Tryz.func103, Tryz.ntmps103
    go_wp2
    go_ret
    exact ⟨ret_i (by unfold foldN; rw [if_neg (by omega)]; omega), rfl⟩
theorem unfold_any (n : Int) (w : World) (h1 : 0 ≤ n) (h2 : n ≤ 18446744073709551615) :
    Calls Tryz.prog 115 #[.int .u64 n] w fun e w' => e = .returned (.int .i64 (unfoldN n)) ∧ w' = w := by
  have ha := and_one64 n h1 h2
  have hn := not_i64 (n / 2) (by omega) (by omega)
  by_cases hk : n % 2 = 1
  · go_enter Tryz.func115, Tryz.ntmps115
    go_wp2
    go_ret
    exact ⟨ret_i (by unfold unfoldN; rw [if_pos hk]), rfl⟩
  · go_enter Tryz.func115, Tryz.ntmps115
    go_wp2
    go_ret
    exact ⟨ret_i (by unfold unfoldN; rw [if_neg hk]), rfl⟩
end Go.Proofs.YtnhijofnhflklaaGreat
end

section
/- What a reader's methods do to the reader that they are called on, and what they answer. -/
namespace Go.Proofs.YtnhijofnhflklaaGreat
open Go.RowKit

set_option maxRecDepth 100000 in
theorem rnumber_any {w : World} {p : Nat} {s : ByteArray} {a : Nat} {e : Int} (h : Rd w p s a e) (hs : s.size ≤ maxLen) (ha : a ≤ s.size) :
    Calls Tryz.prog 116 #[.pointer (some ⟨p, 0, none⟩)] w fun r w' => r = .returned (.int .u64 (rdNum s a e).1) ∧ Rd w' p s (rdNum s a e).2.1 (rdNum s a e).2.2 ∧ Fr w w' (fun k => k = p) := by
  by_cases he : e = 0
  · subst he
    rcases three s a ha with ⟨n, k, hp, h1, h2, h3, h4⟩ | ⟨n, k, x, hp, hx⟩
    · have HR : Hid (rdNum s a 0 = (n, a + k, 0)) := rd_ok hp
      have HP : Hid (pnum (s.data.toList.drop a) = (n, k, 0)) := hp
      clear hp
      have f1 := h.f1
      have c1 := h.c1
      go_enter Tryz.func116, Tryz.ntmps116
      go_wp2_with (go_at_call 108; refine (next_ok h hs ha HP.out h2).mono ?_; rintro r w1 ⟨rfl, q, rfl⟩)
      go_ret
      rw [HR.out]
      exact ⟨rfl, (h.drewN _).set1 _, (Fr.drewN _ _ _).trans (Fr.setCell (S := fun k => k = p) _ _ _ rfl) (fun _ _ h => h)⟩
    · have HR : Hid (rdNum s a 0 = (0, a, (x : Int))) := rd_bad hp hx
      have HP : Hid (pnum (s.data.toList.drop a) = (n, k, x)) := hp
      clear hp
      go_enter Tryz.func116, Tryz.ntmps116
      go_wp2_with (go_at_call 108; refine (next_bad h hs ha HP.out hx).mono ?_; rintro r w1 ⟨rfl, hr, hf⟩)
      go_ret
      rw [HR.out]
      exact ⟨rfl, hr, hf⟩
  · have HR : Hid (rdNum s a e = (0, a, e)) := rd_err he
    go_enter Tryz.func116, Tryz.ntmps116
    go_wp2_with (go_at_call 108; refine (next_err h he).mono ?_; rintro r w1 ⟨rfl, rfl⟩)
    go_ret
    rw [HR.out]
    exact ⟨rfl, h, Fr.refl _ _⟩
theorem rdNum_lt (s : ByteArray) (a : Nat) (e : Int) (ha : a ≤ s.size) : (rdNum s a e).1 < 18446744073709551616 ∧ (rdNum s a e).2.1 ≤ s.size := by
  by_cases he : e = 0
  · subst he
    rcases three s a ha with ⟨n, k, hp, h1, h2, h3, h4⟩ | ⟨n, k, x, hp, hx⟩
    · rw [show rdNum s a 0 = (n, a + k, 0) from rd_ok hp]; exact ⟨h4, h2⟩
    · rw [show rdNum s a 0 = (0, a, (x : Int)) from rd_bad hp hx]; exact ⟨Nat.zero_lt_succ _, ha⟩
  · rw [show rdNum s a e = (0, a, e) from rd_err he]; exact ⟨Nat.zero_lt_succ _, ha⟩

set_option maxRecDepth 100000 in
theorem rsigned_any {w : World} {p : Nat} {s : ByteArray} {a : Nat} {e : Int} (h : Rd w p s a e) (hs : s.size ≤ maxLen) (ha : a ≤ s.size) :
    Calls Tryz.prog 71 #[.pointer (some ⟨p, 0, none⟩)] w fun r w' => r = .returned (.int .i64 (unfoldN (rdNum s a e).1)) ∧ Rd w' p s (rdNum s a e).2.1 (rdNum s a e).2.2 ∧ Fr w w' (fun k => k = p) := by
  have hl := (rdNum_lt s a e ha).1
  go_enter Tryz.func71, Tryz.ntmps71
  go_wp2_with (first
    | (go_at_call 116; refine (rnumber_any h hs ha).mono ?_; rintro r w1 ⟨rfl, hr, hf⟩)
    | (go_at_call 115; refine (unfold_any _ _ (by omega) (by omega)).mono ?_; rintro r w2 ⟨rfl, rfl⟩))
  go_ret
  exact ⟨rfl, hr, hf⟩

set_option maxRecDepth 100000 in
theorem rcount_any {w : World} {p : Nat} {s : ByteArray} {a : Nat} {e : Int} {most : Int} (h : Rd w p s a e) (hs : s.size ≤ maxLen) (ha : a ≤ s.size) (hm : most ≤ 9223372036854775807) :
    Calls Tryz.prog 61 #[.pointer (some ⟨p, 0, none⟩), .int .i64 most] w fun r w' => r = .returned (.int .i64 (rdCount s a e most).1) ∧ Rd w' p s (rdCount s a e most).2.1 (rdCount s a e most).2.2 ∧ Fr w w' (fun k => k = p) := by
  by_cases he : e = 0
  · subst he
    rcases three s a ha with ⟨n, k, hp, h1, h2, h3, h4⟩ | ⟨n, k, x, hp, hx⟩
    · have hn : n < 18446744073709551616 := h4
      have HP : Hid (pnum (s.data.toList.drop a) = (n, k, 0)) := hp
      have f1 := h.f1
      have c1 := h.c1
      have f2 := h.f2
      have c2 := h.c2
      by_cases hneg : most < 0
      · have HR : Hid (rdCount s a 0 most = (0, a, 5)) := (rd_ok hp).trans (if_pos (Or.inl hneg))
        clear hp
        go_enter Tryz.func61, Tryz.ntmps61
        go_wp2_with (go_at_call 108; refine (next_ok h hs ha HP.out h2).mono ?_; rintro r w1 ⟨rfl, q, rfl⟩)
        go_ret
        rw [HR.out]
        exact ⟨rfl, (h.drewN _).set2 _, (Fr.drewN _ _ _).trans (Fr.setCell (S := fun k => k = p) _ _ _ rfl) (fun _ _ h => h)⟩
      · by_cases hmore : most < n
        · have HR : Hid (rdCount s a 0 most = (0, a, 5)) := (rd_ok hp).trans (if_pos (Or.inr hmore))
          clear hp
          go_enter Tryz.func61, Tryz.ntmps61
          go_wp2_with (go_at_call 108; refine (next_ok h hs ha HP.out h2).mono ?_; rintro r w1 ⟨rfl, q, rfl⟩)
          go_ret
          rw [HR.out]
          exact ⟨rfl, (h.drewN _).set2 _, (Fr.drewN _ _ _).trans (Fr.setCell (S := fun k => k = p) _ _ _ rfl) (fun _ _ h => h)⟩
        · have HR : Hid (rdCount s a 0 most = (n, a + k, 0)) := (rd_ok hp).trans (if_neg (by omega))
          clear hp
          go_enter Tryz.func61, Tryz.ntmps61
          go_wp2_with (go_at_call 108; refine (next_ok h hs ha HP.out h2).mono ?_; rintro r w1 ⟨rfl, q, rfl⟩)
          go_ret
          rw [HR.out]
          exact ⟨rfl, (h.drewN _).set1 _, (Fr.drewN _ _ _).trans (Fr.setCell (S := fun k => k = p) _ _ _ rfl) (fun _ _ h => h)⟩
    · have HR : Hid (rdCount s a 0 most = (0, a, (x : Int))) := rd_bad hp hx
      have HP : Hid (pnum (s.data.toList.drop a) = (n, k, x)) := hp
      clear hp
      go_enter Tryz.func61, Tryz.ntmps61
      go_wp2_with (go_at_call 108; refine (next_bad h hs ha HP.out hx).mono ?_; rintro r w1 ⟨rfl, hr, hf⟩)
      go_ret
      rw [HR.out]
      exact ⟨rfl, hr, hf⟩
  · have HR : Hid (rdCount s a e most = (0, a, e)) := rd_err he
    go_enter Tryz.func61, Tryz.ntmps61
    go_wp2_with (go_at_call 108; refine (next_err h he).mono ?_; rintro r w1 ⟨rfl, rfl⟩)
    go_ret
    rw [HR.out]
    exact ⟨rfl, h, Fr.refl _ _⟩

theorem rfail_any {w : World} {p : Nat} {s : ByteArray} {a e x : Int} (hrd : Rd w p s a e) :
    Calls Tryz.prog 62 #[.pointer (some ⟨p, 0, none⟩), .int .i64 x] w fun r w' => r = .returned (.tuple #[]) ∧ Rd w' p s a (rdFail e x) ∧ Fr w w' (fun k => k = p) := by
  by_cases he : e = 0
  · subst he
    have f2 := hrd.f2
    have c2 := hrd.c2
    go_enter Tryz.func62, Tryz.ntmps62
    go_wp2_with (go_at_call 63; refine (err_any hrd).mono ?_; rintro r w1 ⟨rfl, rfl⟩)
    go_end0
    exact ⟨rfl, by rw [rdFail_0]; exact hrd.set2 _, Fr.setCell (S := fun k => k = p) _ _ _ rfl⟩
  · have he0 : (e == 0) = false := by simp; omega
    go_enter Tryz.func62, Tryz.ntmps62
    go_wp2_with (go_at_call 63; refine (err_any hrd).mono ?_; rintro r w1 ⟨rfl, rfl⟩)
    go_end0
    exact ⟨rfl, by rw [rdFail_e he]; exact hrd, Fr.refl _ _⟩

set_option maxRecDepth 100000 in
theorem rend_any {w : World} {p : Nat} {s : ByteArray} {a : Nat} {e : Int} (h : Rd w p s a e) (hs : s.size ≤ maxLen) (ha : a ≤ s.size) :
    Calls Tryz.prog 53 #[.pointer (some ⟨p, 0, none⟩)] w fun r w' => r = .returned (.int .i64 (rdEnd s a e)) ∧ Rd w' p s a (rdEnd s a e) ∧ Fr w w' (fun k => k = p) := by
  by_cases hlt : a < s.size
  · have HR : Hid (rdEnd s a e = rdFail e 5) := rdEnd_lt e hlt
    go_enter Tryz.func53, Tryz.ntmps53
    go_wp2_with (first
      | (go_at_call 27; refine (left_any h hs ha).mono ?_; rintro r w1 ⟨rfl, q, rfl⟩)
      | (go_at_call 62; refine (rfail_any (h.drewN q)).mono ?_; rintro r w1 ⟨rfl, hr, hf⟩)
      | (go_at_call 63; refine (err_any hr).mono ?_; rintro r w2 ⟨rfl, rfl⟩))
    go_ret
    rw [HR.out]
    exact ⟨rfl, hr, (Fr.drewN _ _ _).trans hf (fun _ _ h => h)⟩
  · have HR : Hid (rdEnd s a e = e) := rdEnd_ge e hlt
    go_enter Tryz.func53, Tryz.ntmps53
    go_wp2_with (first
      | (go_at_call 27; refine (left_any h hs ha).mono ?_; rintro r w1 ⟨rfl, q, rfl⟩)
      | (go_at_call 63; refine (err_any (h.drewN q)).mono ?_; rintro r w2 ⟨rfl, rfl⟩))
    go_ret
    rw [HR.out]
    exact ⟨rfl, h.drewN _, Fr.drewN _ _ _⟩

theorem newreader_any (s : ByteArray) (w : World) :
    Calls Tryz.prog 23 #[.string s] w fun r w' => r = .returned (.pointer (some ⟨w.heap.size, 0, none⟩)) ∧ Rd w' w.heap.size s 0 0 ∧ Below w.heap.size w w' := by
  go_enter Tryz.func23, Tryz.ntmps23
  go_wp2
  go_ret
  exact ⟨rfl, heap_alloc_new _ _, (Below.refl _ _).alloc (Nat.le_refl _) _⟩
end Go.Proofs.YtnhijofnhflklaaGreat
end

section
/- What the document's reader (a value) answers to each taking. -/
namespace Go.Proofs.YtnhijofnhflklaaGreat
open Go.RowKit

theorem b2 (w : World) (o1 o2 : Obj) : Below w.heap.size w ((w.alloc o1).alloc o2) := ((Below.refl _ _).alloc (Nat.le_refl _) _).alloc (by simp) _

end Go.Proofs.YtnhijofnhflklaaGreat
end

section
/- What Number returns: the number's bytes, in the program and in the document's words. -/
namespace Go.Proofs.YtnhijofnhflklaaGreat
open Go.RowKit
theorem Tryz.infoB : (Tryz.prog.info? 5).map (fun i => (i.zero, i.size, i.bytes)) = some (some (.int .u8 0), 1, 1) := by kernel_rfl

theorem or128 (m : Nat) : bits .or .u8 ((m : Int) % 256) 128 = (((UInt8.ofNat (m % 128 + 128)).toNat : Nat) : Int) := by
  have e : ((m : Int) % 256) = ((m % 256 : Nat) : Int) := by omega
  have h := u8_or_nat (m % 256) 128 (by omega) (by decide)
  rw [e]
  refine h.trans ?_
  have : m % 256 ||| 128 = m % 128 + 128 := by
    have a : m % 256 = m % 128 ∨ m % 256 = 128 ||| m % 128 := by
      have h2 : 128 ||| m % 128 = 128 + m % 128 := nat_join 7 128 (m % 128) (by decide) (by omega)
      omega
    rcases a with a | a
    · rw [a, Nat.or_comm, nat_join 7 128 (m % 128) (by decide) (by omega)]; omega
    · rw [a, Nat.or_comm, ← Nat.or_assoc, Nat.or_self, nat_join 7 128 (m % 128) (by decide) (by omega)]; omega
  rw [this, UInt8.toNat_ofNat']; congr 1; omega

set_option maxRecDepth 100000 in
set_option maxHeartbeats 400000 in
theorem append_number (base : Nat) (v : Value) (xs : List UInt8) (n : Nat) (w : World) (hn : n < 18446744073709551616) (hown : w.ownsRow base 5 1 v xs.length (bc xs)) (hbase : base ≤ w.heap.size)
    (hroom : xs.length + 10 ≤ 140737488355328) :
    Calls Tryz.prog 152 #[v, .int .u64 n] w fun e w' => ∃ v', e = .returned v' ∧ w'.ownsRow base 5 1 v' (xs ++ numB n).length (bc (xs ++ numB n)) ∧ Fr w w' (fun k => v.ownBlock = some k) ∧ Row w v v' := by
  obtain ⟨i0, hi, hz0, hz1, hz2⟩ := info_parts Tryz.infoB
  have hl10 := numB_len10 hn
  go_enter Tryz.func152, Tryz.ntmps152
  go_wp2
  go_loopw [0, 1] (fun u x wr => ∃ (pre : List UInt8) (m : Nat), x = .int .u64 m ∧ m < 18446744073709551616 ∧ pre ++ numB m = numB n ∧ wr.ownsRow base 5 1 u (xs ++ pre).length (bc (xs ++ pre)) ∧ Fr w wr (fun k => v.ownBlock = some k) ∧ Row w v u)
    (fun _ x _ => (intOf x).toNat)
  case atStart => exact ⟨[], n, rfl, hn, rfl, by simpa using hown, Fr.refl _ _, Row.refl _ _⟩
  case round =>
    obtain ⟨pre, m, rfl, hm, hpre, ho, hfr, hrow⟩ := hrel
    have hlen : pre.length + (numB m).length ≤ 10 := by rw [← List.length_append, hpre]; exact hl10
    have hp1 := numB_pos m
    have hsz := hfr.size
    have HP : Hid (pre ++ numB m = numB n) := hpre
    have HR := hrow
    have hbw : base ≤ wr.heap.size := Nat.le_trans hbase hsz
    clear hpre hrow
    have hll : (xs ++ pre).length = xs.length + pre.length := List.length_append
    by_cases hlo : m < 128
    · go_wp2_with (first
        | (at_builtin; refine wpList_append_own_at _ rfl _ _ 126 rfl base 5 i0 (.int .u8 0) 1 1 Tryz.underlying126 hi hz0 hz1 hz2 rfl (by decide) _ _ _ rfl (ho.alloc _) ⟨wr.heap.size, 0, none⟩ 1 1 [.int .u8 m] rfl rfl ?c1 ?c2 ?c3 ?c4 ?c5 ?_))
      case c1 => exact cell_one_new _ _ _
      case c2 => intro u hu; simp at hu; subst hu; rfl
      case c3 => unfold maxLen; omega
      case c4 => omega
      case c5 => simp; omega
      · intro v' w1 hown' hgrow _ hat
        go_wp2
        go_ret
        have E := numB_stop HP.out hlo
        refine ⟨v', rfl, ?_, app_fr hfr HR hgrow, app_row (o := .cells #[.int .u8 m] 5) hsz HR (by simpa using hat)⟩
        rw [E]
        exact own_snoc hown' rfl (by rw [UInt8.toNat_ofNat']; omega)
    · go_wp2_with (first
        | (at_builtin; refine wpList_append_own_at _ rfl _ _ 126 rfl base 5 i0 (.int .u8 0) 1 1 Tryz.underlying126 hi hz0 hz1 hz2 rfl (by decide) _ _ _ rfl (ho.alloc _) ⟨wr.heap.size, 0, none⟩ 1 1 [.int .u8 (bits .or .u8 ((m : Int) % 256) 128)] rfl rfl ?d1 ?d2 ?d3 ?d4 ?d5 ?_))
      case d1 => exact cell_one_new _ _ _
      case d2 => intro u hu; simp at hu; subst hu; rfl
      case d3 => unfold maxLen; omega
      case d4 => omega
      case d5 => simp; omega
      · intro v' w1 hown' hgrow _ hat
        go_wp2
        go_roundw
        case rel =>
          have hb := or128 m
          exact ⟨pre ++ [UInt8.ofNat (m % 128 + 128)], m / 128, by go_num, by omega, numB_go HP.out hlo, own_snoc hown' rfl hb, app_fr hfr HR hgrow, app_row (o := .cells #[.int .u8 (bits .or .u8 ((m : Int) % 256) 128)] 5) hsz HR (by simpa using hat)⟩
        case measure => simp [intOf]; omega
end Go.Proofs.YtnhijofnhflklaaGreat
end

section
/- What Number returns: the number's bytes, in the program and in the document's words. -/
namespace Go.Proofs.YtnhijofnhflklaaGreat
open Go.RowKit
/-- A text of bytes. -/
def str (l : List UInt8) : ByteArray := ⟨l.toArray⟩
theorem str_append (a b : List UInt8) : str a ++ str b = str (a ++ b) := ByteArray.mk_append_mk a b

theorem conv_own {w : World} {base : Nat} {v : Value} {l : List UInt8} (h : w.ownsRow base 5 1 v l.length (bc l)) : (convert 126 9 v).run Tryz.prog w = .ok (.string (str l)) w := by
  rcases h.2 with ⟨rfl, h0⟩ | ⟨g, cap, cur, rfl, hb, hg, _⟩
  · have : l = [] := List.eq_nil_of_length_eq_zero h0
    subst this
    rw [run_convert_bytes_string w 126 9 5 none 0 0 Tryz.underlying126 Tryz.underlying5 Tryz.underlying9]
    rfl
  · have hc : Lib.Bytes w g 0 (str l) := by
      intro i hi
      have := h.cells (g := g) rfl i (.int .u8 ((str l)[i].toNat : Int)) (by
        have hi' : i < l.length := hi
        unfold bc
        rw [List.getElem?_map, List.getElem?_eq_getElem hi']
        rfl)
      have ha : (⟨g, 0, none⟩ : Addr).add i = ⟨g, 0 + i, none⟩ := by unfold Addr.add; split <;> simp_all
      rw [ha] at this
      exact this
    exact Lib.run_convert_whole w 126 5 9 Tryz.underlying126 Tryz.underlying5 Tryz.underlying9 g 0 (str l) hc cap

theorem conv_blk {W : World} {b : Nat} {x : Int} (h0 : 0 ≤ x) (h1 : x < 256) (h : W.heap[b]? = some (.cells #[.int .u8 x] 5 (0, 0))) : (convert 126 9 (.slice (some ⟨b, 0, none⟩) 1 1)).run Tryz.prog W = .ok (.string (str [UInt8.ofNat x.toNat])) W := by
  refine conv_own (base := 0) (l := [UInt8.ofNat x.toNat]) ⟨rfl, Or.inr ⟨b, 1, #[.int .u8 x], rfl, Nat.zero_le _, h, Nat.le_refl _, by decide, rfl, ?_⟩⟩
  simp [bc]
  omega
theorem conv_new (W : World) (x : Int) (h0 : 0 ≤ x) (h1 : x < 256) : (convert 126 9 (.slice (some ⟨W.heap.size, 0, none⟩) 1 1)).run Tryz.prog (W.alloc (.cells #[.int .u8 x] 5)) = .ok (.string (str [UInt8.ofNat x.toNat])) (W.alloc (.cells #[.int .u8 x] 5)) :=
  conv_blk h0 h1 (heap_alloc_new _ _)
theorem conv_newd (W : World) (x : Int) (h0 : 0 ≤ x) (h1 : x < 256) : (convert 126 9 (.slice (some ⟨W.heap.size, 0, none⟩) 1 1)).run Tryz.prog (W.alloc (.cells #[.int .u8 x] 5)).drew = .ok (.string (str [UInt8.ofNat x.toNat])) (W.alloc (.cells #[.int .u8 x] 5)).drew :=
  conv_blk h0 h1 (heap_alloc_new _ _)
theorem conv_later {W w1 : World} (x : Int) (h0 : 0 ≤ x) (h1 : x < 256) (hb : Below (W.alloc (.cells #[.int .u8 x] 5)).drew.heap.size (W.alloc (.cells #[.int .u8 x] 5)).drew w1) : (convert 126 9 (.slice (some ⟨W.heap.size, 0, none⟩) 1 1)).run Tryz.prog w1 = .ok (.string (str [UInt8.ofNat x.toNat])) w1 :=
  conv_blk h0 h1 ((hb.block W.heap.size (by show _ < (W.alloc _).heap.size; simp)).trans (heap_alloc_new _ _))

theorem below_a {w w1 : World} {o : Obj} (h : Below (w.alloc o).drew.heap.size (w.alloc o).drew w1) : Below w.heap.size w w1 :=
  (((Below.refl w.heap.size w).alloc (Nat.le_refl _) o).drew).trans (h.mono (by show _ ≤ (w.alloc o).heap.size; simp))
theorem below_c {w w1 : World} (h : Below w.drew.heap.size w.drew w1) : Below w.heap.size w w1 := ((Below.refl w.heap.size w).drew).trans h
theorem below_b {w w1 : World} (h : Below w.drew.heap.size w.drew w1) (o : Obj) : Below w.heap.size w (w1.alloc o) := (below_c h).alloc (below_c h).size o
theorem num_join {n q : Nat} {x : Int} (hlo : ¬ n < 128) (hx : x = n % 128 + 128) (hq : q = n / 128) : Ending.returned (.string (str [UInt8.ofNat x.toNat] ++ str (numB q))) = .returned (.string (str (numB n))) := by
  have : x.toNat = n % 128 + 128 := by omega
  rw [str_append, numB_hi hlo, this, hq]; rfl

set_option maxRecDepth 100000 in
theorem refnumber_k (k : Nat) : ∀ (n : Nat) (w : World), n < 128 ^ (k + 1) → n < 18446744073709551616 →
    Calls Tryz.prog 50 #[.int .u64 n] w fun e w' => e = .returned (.string (str (numB n))) ∧ Below w.heap.size w w' := by
  have lo : ∀ (n : Nat) (w : World), n < 128 → Calls Tryz.prog 50 #[.int .u64 n] w fun e w' => e = .returned (.string (str (numB n))) ∧ Below w.heap.size w w' := by
    intro n w hlo
    have hcv := conv_new w n (by omega) (by omega)
    go_enter Tryz.func50, Tryz.ntmps50
    go_wp2
    go_ret
    rw [numB_lo hlo]
    exact ⟨rfl, (Below.refl _ _).alloc (Nat.le_refl _) _⟩
  induction k with
  | zero =>
    intro n w h hn
    exact lo n w (by simpa using h)
  | succ k ih =>
    intro n w h hn
    by_cases hlo : n < 128
    · exact lo n w hlo
    · obtain ⟨x, HX, hx⟩ : ∃ x : Int, Hid (x = n % 128 + 128) ∧ IntKind.u8.wrap (IntKind.u8.wrap ((n : Int).tmod 128) + 128) = x := ⟨_, (by
        show _ = _
        rw [IntKind.wrap_u8', IntKind.wrap_u8', Int.tmod_eq_emod_of_nonneg (by omega)]; omega), rfl⟩
      obtain ⟨q, HQ, hq⟩ : ∃ q : Nat, Hid (q = n / 128) ∧ IntKind.u64.wrap ((n : Int) / 128) = (q : Int) := ⟨n / 128, rfl, by rw [IntKind.wrap_u64]; omega⟩
      have h0 : 0 ≤ x := by have := HX.out; omega
      have h1 : x < 256 := by have := HX.out; omega
      have hcv := fun W => conv_new W x h0 h1
      have hcd := fun W => conv_newd W x h0 h1
      have h2 : q < 128 ^ (k + 1) := by rw [HQ.out, Nat.div_lt_iff_lt_mul (by decide), ← Nat.pow_succ]; exact h
      have h3 : q < 18446744073709551616 := by have := HQ.out; omega
      have IH : Hid (∀ (w : World), Calls Tryz.prog 50 #[.int .u64 q] w fun e w' => e = .returned (.string (str (numB q))) ∧ Below w.heap.size w w') := fun w => ih q w h2 h3
      have HH : Hid (n < 18446744073709551616) := hn
      have hs1 : (str [UInt8.ofNat x.toNat]).size ≤ 1 := Nat.le_refl _
      have hs2 : (str (numB q)).size ≤ 10 := numB_len10 h3
      clear ih h h2 h3 lo hn
      go_enter Tryz.func50, Tryz.ntmps50
      go_wp2
      go_region_with (go_at_call 50; refine (IH.out _).mono ?_; rintro e w1 ⟨rfl, hb⟩; try (have hcl := conv_later x h0 h1 hb))
      all_goals
        go_wp2
        go_ret
        refine ⟨num_join hlo HX.out HQ.out, ?_⟩
        first | exact below_a hb | exact below_b hb _ | exact below_c hb
theorem refnumber_any (n : Nat) (w : World) (hn : n < 18446744073709551616) :
    Calls Tryz.prog 50 #[.int .u64 n] w fun e w' => e = .returned (.string (str (numB n))) ∧ Below w.heap.size w w' :=
  refnumber_k 9 n w (Nat.lt_of_lt_of_le hn (by decide)) hn
end Go.Proofs.YtnhijofnhflklaaGreat
end
