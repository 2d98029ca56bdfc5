import Derived.Test.YtjemnkijoiehmaaGreatDoorStrM
import Derived.Test.YtjemnkijoiehmaaGreatDoorDkNameM
import Derived.Test.YtjemnkijoiehmaaGreatDoorWlMathM
import Derived.Lib.ItoaNum
/- store: numbers of texts, the names of their files; what is known of a few numbers. -/
namespace Go.Proofs.YtjemnkijoiehmaaGreatDoor
open Go.RowKit
/-- The name of a number's file. -/
def nmN (k : Nat) : List UInt8 := [112, 97, 114, 116, 45] ++ (if k < 10 then [UInt8.ofNat (48 + k)] else [49, UInt8.ofNat (48 + (k - 10))])
def fnm (n : Int) : List UInt8 := nmN n.toNat
theorem dec_small {k : Nat} (h : k < 16) : Lib.decDigits k = if k < 10 then [UInt8.ofNat (48 + k)] else [49, UInt8.ofNat (48 + (k - 10))] := by
  rw [Lib.decDigits]
  split
  · rfl
  · have h1 : k / 10 = 1 := by omega
    have h2 : k % 10 = k - 10 := by omega
    rw [h1, h2, Lib.decDigits]
    simp
theorem nmN_ok : ∀ k : Fin 16, nameB (nmN k.val) = true := by decide +kernel
theorem nmN_inj : ∀ k j : Fin 16, nmN k.val = nmN j.val → k = j := by decide +kernel
theorem fnm_ok {n : Int} (h0 : 0 ≤ n) (h1 : n < 16) : nameB (fnm n) = true := nmN_ok ⟨n.toNat, by omega⟩
theorem fnm_inj {n m : Int} (h0 : 0 ≤ n) (h1 : n < 16) (k0 : 0 ≤ m) (k1 : m < 16) (h : fnm n = fnm m) : n = m := by
  have := nmN_inj ⟨n.toNat, by omega⟩ ⟨m.toNat, by omega⟩ h
  have e : n.toNat = m.toNat := congrArg Fin.val this
  omega
/-- What is known of the numbers of texts alone. -/
def Sup {α : Type} (f : Int → Option α) : Prop := ∀ x, (f x).isSome = true → 0 ≤ x ∧ x < 16
def nums : List Int := (List.range 16).map (fun i : Nat => (i : Int))
def keysO {α : Type} (f : Int → Option α) : List Int := nums.filter (fun x => (f x).isSome)
def setO {α : Type} (f : Int → Option α) (n : Int) (y : α) : Int → Option α := fun x => if x = n then some y else f x
def cutO' {α : Type} (f : Int → Option α) (n : Int) : Int → Option α := fun x => if x = n then none else f x
def noneO {α : Type} : Int → Option α := fun _ => none
theorem mem_nums {x : Int} : x ∈ nums ↔ 0 ≤ x ∧ x < 16 := by
  unfold nums
  rw [List.mem_map]
  constructor
  · rintro ⟨i, hi, rfl⟩
    rw [List.mem_range] at hi
    omega
  · intro h
    exact ⟨x.toNat, by rw [List.mem_range]; omega, by omega⟩
theorem nums_nodup : nums.Nodup := by decide +kernel
theorem nums_sort : nums.Pairwise (fun x y => x < y) := by decide +kernel
section
variable {α β : Type} {f : Int → Option α} {n : Int} {y : α}
theorem keysO_nodup : (keysO f).Nodup := List.Nodup.sublist List.filter_sublist nums_nodup
theorem keysO_sort : (keysO f).Pairwise (fun x y => x < y) := List.Pairwise.sublist List.filter_sublist nums_sort
theorem mem_keysO (h : Sup f) {x : Int} : x ∈ keysO f ↔ (f x).isSome = true := by
  unfold keysO
  rw [List.mem_filter, mem_nums]
  exact ⟨fun h => h.2, fun k => ⟨h x k, k⟩⟩
theorem keysO_len : (keysO f).length ≤ 16 := by
  have h : (keysO f).length ≤ nums.length := List.length_filter_le _ _
  have h2 : nums.length = 16 := by decide +kernel
  omega
theorem Sup.set (h : Sup f) (h0 : 0 ≤ n) (h1 : n < 16) : Sup (setO f n y) := by
  intro x hx
  unfold setO at hx
  by_cases e : x = n
  · omega
  · rw [if_neg e] at hx
    exact h x hx
theorem Sup.cut (h : Sup f) : Sup (cutO' f n) := by
  intro x hx
  unfold cutO' at hx
  by_cases e : x = n
  · rw [if_pos e] at hx; cases hx
  · rw [if_neg e] at hx
    exact h x hx
theorem Sup.none : Sup (noneO : Int → Option α) := fun _ h => (by cases h)
theorem Sup.of {g : Int → Option β} (h : Sup f) (e : ∀ x, (g x).isSome = (f x).isSome) : Sup g := fun x hx => h x (by rw [← e]; exact hx)
theorem keysO_of {g : Int → Option β} (e : ∀ x, (g x).isSome = (f x).isSome) : keysO g = keysO f := by
  unfold keysO
  congr 1
  funext x
  rw [e]
theorem keysO_none : keysO (noneO : Int → Option α) = [] := by
  unfold keysO noneO
  simp
theorem set_same : setO f n y n = some y := if_pos rfl
theorem set_ne {x : Int} (h : x ≠ n) : setO f n y x = f x := if_neg h
theorem cut_same : cutO' f n n = none := if_pos rfl
theorem cut_ne {x : Int} (h : x ≠ n) : cutO' f n x = f x := if_neg h
end
/-- Numbers but one. -/
def woI (L : List Int) (n : Int) : List Int := L.filter (fun x => !(x == n))
theorem mem_woI {L : List Int} {n x : Int} : x ∈ woI L n ↔ x ∈ L ∧ x ≠ n := by
  unfold woI
  rw [List.mem_filter]
  simp
theorem woI_nodup {L : List Int} {n : Int} (h : L.Nodup) : (woI L n).Nodup := List.Nodup.sublist List.filter_sublist h
theorem woI_le (L : List Int) (n : Int) : (woI L n).length ≤ L.length := List.length_filter_le _ _
theorem woI_not (L : List Int) (n : Int) : n ∉ woI L n := by
  rw [mem_woI]
  simp
theorem woI_id {L : List Int} {n : Int} (h : n ∉ L) : woI L n = L := by
  unfold woI
  rw [List.filter_eq_self]
  intro x hx
  simp only [Bool.not_eq_true', beq_eq_false_iff_ne]
  intro e
  exact h (e ▸ hx)
/-- Numbers of texts, each once, are few. -/
theorem few16 {L : List Int} (h : L.Nodup) (hs : ∀ x ∈ L, 0 ≤ x ∧ x < 16) : L.length ≤ 16 := by
  have key : ∀ (M N : List Int), M.Nodup → (∀ x ∈ M, x ∈ N) → M.length ≤ N.length := by
    intro M
    induction M with
    | nil => intro N _ _; exact Nat.zero_le _
    | cons a r ih =>
      intro N hM hN
      have h1 := List.nodup_cons.1 hM
      have h2 := ih (N.erase a) h1.2 (fun x hx => (List.mem_erase_of_ne (fun e => h1.1 (by rw [← e]; exact hx))).2 (hN x (List.mem_cons_of_mem _ hx)))
      have h3 := List.length_erase_of_mem (hN a (List.mem_cons_self ..))
      have h4 := List.length_pos_of_mem (hN a (List.mem_cons_self ..))
      rw [List.length_cons]
      omega
  have h2 : nums.length = 16 := by decide +kernel
  have := key L nums h (fun x hx => mem_nums.2 (hs x hx))
  omega
end Go.Proofs.YtjemnkijoiehmaaGreatDoor
