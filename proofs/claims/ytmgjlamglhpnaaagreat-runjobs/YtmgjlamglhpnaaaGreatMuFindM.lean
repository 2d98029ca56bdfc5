/- What a request does to a graph: on plain lists. -/
import Derived.Test.YtmgjlamglhpnaaaGreatJbMM
import Derived.Test.YtmgjlamglhpnaaaGreatMuInsM
import Derived.Test.YtmgjlamglhpnaaaGreatGrClone2M
import Derived.Test.YtmgjlamglhpnaaaGreatGrFind2M
namespace Go.Proofs.YtmgjlamglhpnaaaGreat
set_option maxRecDepth 100000
open Go.RowKit
def doV (v : Vx) (m : Mu) : List Vx × Bool :=
 if m.k = 2 then ([], true)
 else if m.k = 1 then (if foundB (ends v.es) m.t then ([⟨v.id, v.val, v.es.take (findN (ends v.es) m.t) ++ v.es.drop (findN (ends v.es) m.t + 1)⟩], true) else ([v], false))
 else if m.k = 4 then (if foundB (ends v.es) m.t then ([v], false) else ([⟨v.id, v.val, v.es.take (findN (ends v.es) m.t) ++ ⟨m.t, m.v⟩ :: v.es.drop (findN (ends v.es) m.t)⟩], true))
 else ([v], false)
def noV (m : Mu) : List Vx × Bool := if m.k = 3 then ([⟨m.i, m.v, []⟩], true) else ([], false)
def doG (G : List Vx) (m : Mu) : List Vx × Bool :=
 if foundB (ids G) m.i then
  match G.drop (findN (ids G) m.i) with
  | [] => (G, false)
  | v :: B => (G.take (findN (ids G) m.i) ++ ((doV v m).1 ++ B), (doV v m).2)
 else (G.take (findN (ids G) m.i) ++ ((noV m).1 ++ G.drop (findN (ids G) m.i)), (noV m).2)
theorem findN_app {A B : List Int} {x : Int} (hA : ∀ a ∈ A, a < x) (hB : ∀ b ∈ B, ¬ b < x) : findN (A ++ B) x = A.length := by
 refine findN_eq (by simp) (fun j h hj => ?_) (fun j h hj => ?_)
 ·rw [List.getElem_append_left hj]
  exact hA _ (List.getElem_mem _)
 ·rw [List.getElem_append_right hj]
  exact hB _ (List.getElem_mem _)
theorem foundB_app {A B : List Int} {x : Int} (hA : ∀ a ∈ A, a < x) (hB : ∀ b ∈ B, ¬ b < x) : foundB (A ++ B) x = (B.head? == some x) := by
 unfold foundB
 rw [findN_app hA hB]
 congr 1
 rw [List.getElem?_append_right (Nat.le_refl _), Nat.sub_self]
 cases B <;> rfl
theorem rise_pw {l : List Int} : Rise l ↔ l.Pairwise (· < ·) := by
 constructor
 ·intro h
  rw [List.pairwise_iff_getElem]
  intro i j hi hj hij
  exact h.lt j i hj hij
 ·intro h j hj
  exact List.pairwise_iff_getElem.1 h j (j + 1) (by omega) hj (by omega)
structure Fine (G : List Vx) : Prop where
 ids : (ids G).Pairwise (· < ·)
 es : ∀ v ∈ G, (ends v.es).Pairwise (· < ·)
theorem ids_app (A B : List Vx) : ids (A ++ B) = ids A ++ ids B := by simp [ids]
theorem ids_cons (v : Vx) (B : List Vx) : ids (v :: B) = v.id :: ids B := rfl
theorem ends_app (A B : List Ed) : ends (A ++ B) = ends A ++ ends B := by simp [ends]
theorem ends_cons (v : Ed) (B : List Ed) : ends (v :: B) = v.t :: ends B := rfl
theorem take_lt (l : List Int) (x : Int) : ∀ a ∈ l.take (findN l x), a < x := by
 intro a ha
 obtain ⟨j, hj, rfl⟩ := List.getElem_of_mem ha
 rw [List.getElem_take]
 obtain ⟨h', h''⟩ := findN_lt l x j (by rw [List.length_take] at hj; omega)
 exact h''
theorem drop_ge {l : List Int} (hr : l.Pairwise (· < ·)) (x : Int) : ∀ b ∈ l.drop (findN l x), x ≤ b := by
 intro b hb
 obtain ⟨j, hj, rfl⟩ := List.getElem_of_mem hb
 rw [List.length_drop] at hj
 rw [List.getElem_drop]
 have h0 := findN_stop l x (by omega)
 by_cases e : j = 0
 ·subst e; simp only [Nat.add_zero]; omega
 ·have := List.pairwise_iff_getElem.1 hr (findN l x) (findN l x + j) (by omega) (by omega) (by omega)
  omega
theorem ids_take (G : List Vx) (n : Nat) : (ids G).take n = ids (G.take n) := by simp [ids, List.map_take]
theorem ids_drop (G : List Vx) (n : Nat) : (ids G).drop n = ids (G.drop n) := by simp [ids, List.map_drop]
theorem ends_take (G : List Ed) (n : Nat) : (ends G).take n = ends (G.take n) := by simp [ends, List.map_take]
theorem ends_drop (G : List Ed) (n : Nat) : (ends G).drop n = ends (G.drop n) := by simp [ends, List.map_drop]
theorem split_ids {G : List Vx} (hr : (ids G).Pairwise (· < ·)) (x : Int) :
  (∃ A v B, G = A ++ v :: B ∧ v.id = x ∧ (∀ a ∈ A, a.id < x) ∧ (∀ b ∈ B, x < b.id) ∧ findN (ids G) x = A.length ∧ foundB (ids G) x = true) ∨
  (∃ A B, G = A ++ B ∧ (∀ a ∈ A, a.id < x) ∧ (∀ b ∈ B, x < b.id) ∧ findN (ids G) x = A.length ∧ foundB (ids G) x = false) := by
 have hA : ∀ a ∈ G.take (findN (ids G) x), a.id < x := fun a ha => take_lt (ids G) x a.id (by rw [ids_take]; exact List.mem_map_of_mem ha)
 have hB : ∀ b ∈ G.drop (findN (ids G) x), x ≤ b.id := fun b hb => drop_ge hr x b.id (by rw [ids_drop]; exact List.mem_map_of_mem hb)
 have hl : findN (ids G) x = (G.take (findN (ids G) x)).length := by
  have := findN_le (ids G) x
  rw [ids_len] at this
  rw [List.length_take]; omega
 have hG : G = G.take (findN (ids G) x) ++ G.drop (findN (ids G) x) := (List.take_append_drop _ _).symm
 have hf : foundB (ids G) x = ((ids (G.drop (findN (ids G) x))).head? == some x) := by
  conv => lhs; rw [hG, ids_app]
  exact foundB_app (fun a ha => by obtain ⟨v, hv, rfl⟩ := List.mem_map.1 ha; exact hA v hv) (fun b hb => by obtain ⟨v, hv, rfl⟩ := List.mem_map.1 hb; have := hB v hv; omega)
 cases hD : G.drop (findN (ids G) x) with
 | nil =>
  rw [hD] at hf hG
  exact .inr ⟨G.take (findN (ids G) x), [], hG, hA, fun b hb => (by cases hb), hl, by rw [hf]; rfl⟩
 | cons v B =>
  have hv := hB v (by rw [hD]; simp)
  have hr' := hr
  rw [hG, ids_app, List.pairwise_append, hD, ids_cons, List.pairwise_cons] at hr'
  rw [hD] at hf hG
  rw [ids_cons, List.head?_cons] at hf
  have hBB : ∀ b ∈ B, v.id < b.id := fun b hb => hr'.2.1.1 b.id (List.mem_map_of_mem hb)
  by_cases e : v.id = x
  ·exact .inl ⟨_, v, B, hG, e, hA, fun b hb => by rw [← e]; exact hBB b hb, hl, by rw [hf, e]; simp⟩
  ·refine .inr ⟨_, v :: B, hG, hA, fun b hb => ?_, hl, by rw [hf]; simpa using e⟩
   rcases List.mem_cons.1 hb with rfl | hb
   ·omega
   ·have := hBB b hb; omega
theorem split_ends {G : List Ed} (hr : (ends G).Pairwise (· < ·)) (x : Int) :
  (∃ A v B, G = A ++ v :: B ∧ v.t = x ∧ (∀ a ∈ A, a.t < x) ∧ (∀ b ∈ B, x < b.t) ∧ findN (ends G) x = A.length ∧ foundB (ends G) x = true) ∨
  (∃ A B, G = A ++ B ∧ (∀ a ∈ A, a.t < x) ∧ (∀ b ∈ B, x < b.t) ∧ findN (ends G) x = A.length ∧ foundB (ends G) x = false) := by
 have hA : ∀ a ∈ G.take (findN (ends G) x), a.t < x := fun a ha => take_lt (ends G) x a.t (by rw [ends_take]; exact List.mem_map_of_mem ha)
 have hB : ∀ b ∈ G.drop (findN (ends G) x), x ≤ b.t := fun b hb => drop_ge hr x b.t (by rw [ends_drop]; exact List.mem_map_of_mem hb)
 have hl : findN (ends G) x = (G.take (findN (ends G) x)).length := by
  have := findN_le (ends G) x
  rw [ends_len] at this
  rw [List.length_take]; omega
 have hG : G = G.take (findN (ends G) x) ++ G.drop (findN (ends G) x) := (List.take_append_drop _ _).symm
 have hf : foundB (ends G) x = ((ends (G.drop (findN (ends G) x))).head? == some x) := by
  conv => lhs; rw [hG, ends_app]
  exact foundB_app (fun a ha => by obtain ⟨v, hv, rfl⟩ := List.mem_map.1 ha; exact hA v hv) (fun b hb => by obtain ⟨v, hv, rfl⟩ := List.mem_map.1 hb; have := hB v hv; omega)
 cases hD : G.drop (findN (ends G) x) with
 | nil =>
  rw [hD] at hf hG
  exact .inr ⟨G.take (findN (ends G) x), [], hG, hA, fun b hb => (by cases hb), hl, by rw [hf]; rfl⟩
 | cons v B =>
  have hv := hB v (by rw [hD]; simp)
  have hr' := hr
  rw [hG, ends_app, List.pairwise_append, hD, ends_cons, List.pairwise_cons] at hr'
  rw [hD] at hf hG
  rw [ends_cons, List.head?_cons] at hf
  have hBB : ∀ b ∈ B, v.t < b.t := fun b hb => hr'.2.1.1 b.t (List.mem_map_of_mem hb)
  by_cases e : v.t = x
  ·exact .inl ⟨_, v, B, hG, e, hA, fun b hb => by rw [← e]; exact hBB b hb, hl, by rw [hf, e]; simp⟩
  ·refine .inr ⟨_, v :: B, hG, hA, fun b hb => ?_, hl, by rw [hf]; simpa using e⟩
   rcases List.mem_cons.1 hb with rfl | hb
   ·omega
   ·have := hBB b hb; omega
theorem doG_there {A B : List Vx} {v : Vx} {m : Mu} (hv : v.id = m.i) (hA : ∀ a ∈ A, a.id < m.i) (hB : ∀ b ∈ B, m.i < b.id) : doG (A ++ v :: B) m = (A ++ ((doV v m).1 ++ B), (doV v m).2) := by
 have hA' : ∀ a ∈ ids A, a < m.i := fun a ha => by obtain ⟨y, hy, rfl⟩ := List.mem_map.1 ha; exact hA y hy
 have hB' : ∀ b ∈ ids (v :: B), ¬ b < m.i := fun b hb => by
  rw [ids_cons, List.mem_cons] at hb
  rcases hb with rfl | hb
  ·omega
  ·obtain ⟨y, hy, rfl⟩ := List.mem_map.1 hb; have := hB y hy; omega
 have e1 : findN (ids (A ++ v :: B)) m.i = A.length := by rw [ids_app, findN_app hA' hB', ids_len]
 have e2 : foundB (ids (A ++ v :: B)) m.i = true := by rw [ids_app, foundB_app hA' hB', ids_cons, List.head?_cons, hv]; simp
 unfold doG
 rw [if_pos e2, e1, List.drop_left, List.take_left]
theorem doG_none {A B : List Vx} {m : Mu} (hA : ∀ a ∈ A, a.id < m.i) (hB : ∀ b ∈ B, m.i < b.id) : doG (A ++ B) m = (A ++ ((noV m).1 ++ B), (noV m).2) := by
 have hA' : ∀ a ∈ ids A, a < m.i := fun a ha => by obtain ⟨y, hy, rfl⟩ := List.mem_map.1 ha; exact hA y hy
 have hB' : ∀ b ∈ ids B, ¬ b < m.i := fun b hb => by
  obtain ⟨y, hy, rfl⟩ := List.mem_map.1 hb; have := hB y hy; omega
 have e1 : findN (ids (A ++ B)) m.i = A.length := by rw [ids_app, findN_app hA' hB', ids_len]
 have e2 : foundB (ids (A ++ B)) m.i = false := by
  rw [ids_app, foundB_app hA' hB']
  cases B with
  | nil => rfl
  | cons y B => have := hB y (by simp); rw [ids_cons, List.head?_cons]; simp; omega
 unfold doG
 rw [if_neg (by rw [e2]; simp), e1, List.drop_left, List.take_left]
theorem doV_ok {v : Vx} {m : Mu} (h : (ends v.es).Pairwise (· < ·)) : (doV v m).1.length ≤ 1 ∧ ∀ y ∈ (doV v m).1, y.id = v.id ∧ (ends y.es).Pairwise (· < ·) ∧ y.es.length ≤ v.es.length + 1 := by
 unfold doV
 split
 ·exact ⟨by simp, fun y hy => (by cases hy)⟩
 ·split
  ·split
   ·refine ⟨by simp, fun y hy => ?_⟩
    rw [List.mem_singleton] at hy
    subst hy
    refine ⟨rfl, ?_, by simp only [List.length_append, List.length_take, List.length_drop]; omega⟩
    simp only
    rw [ends_app, ← ends_take, ← ends_drop]
    refine h.sublist ?_
    conv => rhs; rw [← List.take_append_drop (findN (ends v.es) m.t) (ends v.es)]
    refine List.Sublist.append (List.Sublist.refl _) ?_
    rw [← List.drop_drop]
    exact List.drop_sublist _ _
   ·exact ⟨by simp, fun y hy => by rw [List.mem_singleton] at hy; subst hy; exact ⟨rfl, h, by omega⟩⟩
  ·split
   ·split
    ·exact ⟨by simp, fun y hy => by rw [List.mem_singleton] at hy; subst hy; exact ⟨rfl, h, by omega⟩⟩
    ·rename_i hn
     refine ⟨by simp, fun y hy => ?_⟩
     rw [List.mem_singleton] at hy
     subst hy
     refine ⟨rfl, ?_, by simp only [List.length_append, List.length_take, List.length_cons, List.length_drop]; omega⟩
     rcases split_ends h m.t with ⟨A, y, B, h1, h2, h3, h4, h5, h6⟩ | ⟨A, B, h1, h3, h4, h5, h6⟩
     ·rw [h6] at hn; simp at hn
     ·simp only
      rw [h5, h1, List.take_left, List.drop_left, ends_app, ends_cons]
      rw [h1, ends_app, List.pairwise_append] at h
      rw [List.pairwise_append, List.pairwise_cons]
      refine ⟨h.1, ⟨fun b hb => ?_, h.2.1⟩, fun a ha b hb => ?_⟩
      ·obtain ⟨y, hy, rfl⟩ := List.mem_map.1 hb; exact h4 y hy
      ·rcases List.mem_cons.1 hb with rfl | hb
       ·obtain ⟨y, hy, rfl⟩ := List.mem_map.1 ha; exact h3 y hy
       ·exact h.2.2 a ha b hb
   ·exact ⟨by simp, fun y hy => by rw [List.mem_singleton] at hy; subst hy; exact ⟨rfl, h, by omega⟩⟩
theorem fine_put {A B C : List Vx} {x : Int} (hA : ∀ a ∈ A, a.id < x) (hB : ∀ b ∈ B, x < b.id) (hC1 : C.length ≤ 1) (hC : ∀ y ∈ C, y.id = x ∧ (ends y.es).Pairwise (· < ·)) (hA1 : Fine A) (hB1 : Fine B) : Fine (A ++ (C ++ B)) := by
 refine ⟨?_, fun v hv => ?_⟩
 ·rw [ids_app, ids_app, List.pairwise_append, List.pairwise_append]
  refine ⟨hA1.ids, ⟨?_, hB1.ids, fun a ha b hb => ?_⟩, fun a ha b hb => ?_⟩
  ·match C, hC1 with
   | [], _ => exact List.Pairwise.nil
   | [y], _ => exact List.pairwise_singleton _ _
  ·obtain ⟨y, hy, rfl⟩ := List.mem_map.1 ha
   obtain ⟨z, hz, rfl⟩ := List.mem_map.1 hb
   rw [(hC y hy).1]
   exact hB z hz
  ·obtain ⟨y, hy, rfl⟩ := List.mem_map.1 ha
   have := hA y hy
   rcases List.mem_append.1 hb with hb | hb
   ·obtain ⟨z, hz, rfl⟩ := List.mem_map.1 hb
    rw [(hC z hz).1]; exact this
   ·obtain ⟨z, hz, rfl⟩ := List.mem_map.1 hb
    have := hB z hz; omega
 ·rcases List.mem_append.1 hv with h | h
  ·exact hA1.es v h
  ·rcases List.mem_append.1 h with h | h
   ·exact (hC v h).2
   ·exact hB1.es v h
theorem Fine.left {A B : List Vx} (h : Fine (A ++ B)) : Fine A := ⟨by have := h.ids; rw [ids_app, List.pairwise_append] at this; exact this.1, fun v hv => h.es v (List.mem_append_left _ hv)⟩
theorem Fine.right {A B : List Vx} (h : Fine (A ++ B)) : Fine B := ⟨by have := h.ids; rw [ids_app, List.pairwise_append] at this; exact this.2.1, fun v hv => h.es v (List.mem_append_right _ hv)⟩
theorem noV_ok (m : Mu) : (noV m).1.length ≤ 1 ∧ ∀ y ∈ (noV m).1, y.id = m.i ∧ y.es = [] := by
 unfold noV
 split
 ·exact ⟨by simp, fun y hy => by rw [List.mem_singleton] at hy; subst hy; exact ⟨rfl, rfl⟩⟩
 ·exact ⟨by simp, fun y hy => (by cases hy)⟩
def Up (n : Nat) (G : List Vx) : Prop := G.length ≤ n ∧ ∀ v ∈ G, v.es.length ≤ n
theorem doG_form {G : List Vx} (hf : Fine G) (m : Mu) :
  (∃ A v B, G = A ++ v :: B ∧ v.id = m.i ∧ (∀ a ∈ A, a.id < m.i) ∧ (∀ b ∈ B, m.i < b.id) ∧ doG G m = (A ++ ((doV v m).1 ++ B), (doV v m).2)) ∨
  (∃ A B, G = A ++ B ∧ (∀ a ∈ A, a.id < m.i) ∧ (∀ b ∈ B, m.i < b.id) ∧ doG G m = (A ++ ((noV m).1 ++ B), (noV m).2)) := by
 rcases split_ids hf.ids m.i with ⟨A, v, B, h1, h2, h3, h4, _, _⟩ | ⟨A, B, h1, h3, h4, _, _⟩
 ·exact .inl ⟨A, v, B, h1, h2, h3, h4, by rw [h1]; exact doG_there h2 h3 h4⟩
 ·exact .inr ⟨A, B, h1, h3, h4, by rw [h1]; exact doG_none h3 h4⟩
theorem doG_fine {G : List Vx} (hf : Fine G) (m : Mu) : Fine (doG G m).1 := by
 rcases doG_form hf m with ⟨A, v, B, h1, h2, h3, h4, e⟩ | ⟨A, B, h1, h3, h4, e⟩
 ·rw [e]
  rw [h1] at hf
  have hv := doV_ok (m := m) (hf.es v (by simp))
  exact fine_put h3 h4 hv.1 (fun y hy => ⟨(hv.2 y hy).1.trans h2, (hv.2 y hy).2.1⟩) hf.left (Fine.right (A := [v]) hf.right)
 ·rw [e]
  rw [h1] at hf
  exact fine_put h3 h4 (noV_ok m).1 (fun y hy => ⟨((noV_ok m).2 y hy).1, by rw [((noV_ok m).2 y hy).2]; exact List.Pairwise.nil⟩) hf.left hf.right
theorem doG_up {G : List Vx} (hf : Fine G) (m : Mu) {n : Nat} (h : Up n G) : Up (n + 1) (doG G m).1 := by
 rcases doG_form hf m with ⟨A, v, B, h1, h2, h3, h4, e⟩ | ⟨A, B, h1, h3, h4, e⟩
 ·rw [e]
  rw [h1] at hf h
  have hv := doV_ok (m := m) (hf.es v (by simp))
  refine ⟨?_, fun y hy => ?_⟩
  ·have := h.1
   simp only [List.length_append, List.length_cons] at this ⊢
   omega
  ·rcases List.mem_append.1 hy with hy | hy
   ·have := h.2 y (by simp [hy]); omega
   ·rcases List.mem_append.1 hy with hy | hy
    ·have := h.2 v (by simp); have := (hv.2 y hy).2.2; omega
    ·have := h.2 y (by simp [hy]); omega
 ·rw [e]
  rw [h1] at h
  refine ⟨?_, fun y hy => ?_⟩
  ·have := h.1
   have := (noV_ok m).1
   simp only [List.length_append] at *
   omega
  ·rcases List.mem_append.1 hy with hy | hy
   ·have := h.2 y (by simp [hy]); omega
   ·rcases List.mem_append.1 hy with hy | hy
    ·rw [((noV_ok m).2 y hy).2]; simp
    ·have := h.2 y (by simp [hy]); omega
def stepU (s : List Vx × Nat) (m : Mu) : List Vx × Nat := ((doG s.1 m).1, s.2 + if (doG s.1 m).2 then 1 else 0)
def runU (s : List Vx × Nat) (l : List Mu) : List Vx × Nat := l.foldl stepU s
def appG (G : List Vx) (l : List Mu) : List Vx × Nat := runU (G, 0) (thatC l)
theorem runU_snoc (s : List Vx × Nat) (l : List Mu) (m : Mu) : runU s (l ++ [m]) = stepU (runU s l) m := by unfold runU; rw [List.foldl_append]; rfl
theorem runU_fine {s : List Vx × Nat} (h : Fine s.1) : ∀ l, Fine (runU s l).1 := by
 intro l
 induction l generalizing s with
 | nil => exact h
 | cons m l ih => exact ih (s := stepU s m) (doG_fine h m)
theorem runU_up {s : List Vx × Nat} (h : Fine s.1) {n : Nat} (hu : Up n s.1) : ∀ l, Up (n + l.length) (runU s l).1 := by
 intro l
 induction l generalizing s n with
 | nil => exact hu
 | cons m l ih =>
  have := ih (s := stepU s m) (doG_fine h m) (doG_up h m hu)
  rw [List.length_cons, show n + (l.length + 1) = n + 1 + l.length by omega]
  exact this
theorem appG_up {G : List Vx} (h : Fine G) {n : Nat} (hu : Up n G) (l : List Mu) : Up (n + l.length) (appG G l).1 := by
 have := runU_up (s := (G, 0)) h hu (thatC l)
 have h2 := thatC_len l
 unfold appG
 exact ⟨by have := this.1; omega, fun v hv => by have := this.2 v hv; omega⟩
section
def gcs (L : List (Vx × Value)) : List Value := L.flatMap fun x => [.int .i64 x.1.id, .int .i64 x.1.val, x.2]
theorem gcs_app (A B : List (Vx × Value)) : gcs (A ++ B) = gcs A ++ gcs B := by simp [gcs]
theorem gcs_cons (x : Vx × Value) (B : List (Vx × Value)) : gcs (x :: B) = [.int .i64 x.1.id, .int .i64 x.1.val, x.2] ++ gcs B := by simp [gcs]
theorem gcs_len (L : List (Vx × Value)) : (gcs L).length = L.length * 3 := by
 induction L with
 | nil => rfl
 | cons x L ih => rw [gcs_cons, List.length_append, ih]; simp; omega
theorem gcs_take (L : List (Vx × Value)) (n : Nat) : (gcs L).take (n * 3) = gcs (L.take n) := by
 by_cases h : n ≤ L.length
 ·conv => lhs; rw [← List.take_append_drop n L, gcs_app]
  rw [List.take_left' (by rw [gcs_len, List.length_take]; omega)]
 ·rw [List.take_of_length_le (by rw [gcs_len]; omega), List.take_of_length_le (by omega)]
theorem gcs_drop (L : List (Vx × Value)) (n : Nat) : (gcs L).drop (n * 3) = gcs (L.drop n) := by
 by_cases h : n ≤ L.length
 ·conv => lhs; rw [← List.take_append_drop n L, gcs_app]
  rw [List.drop_left' (by rw [gcs_len, List.length_take]; omega)]
 ·rw [List.drop_of_length_le (by rw [gcs_len]; omega), List.drop_of_length_le (by omega)]; rfl
theorem gcs_at (A B : List (Vx × Value)) (x : Vx × Value) : (gcs (A ++ x :: B))[A.length * 3]? = some (.int .i64 x.1.id) ∧ (gcs (A ++ x :: B))[A.length * 3 + 1]? = some (.int .i64 x.1.val) ∧ (gcs (A ++ x :: B))[A.length * 3 + 2]? = some x.2 := by
 have hl := gcs_len A
 refine ⟨?_, ?_, ?_⟩ <;> (rw [gcs_app, gcs_cons, List.getElem?_append_right (by omega), hl]; simp)
theorem ecs_app (A B : List Ed) : ecs (A ++ B) = ecs A ++ ecs B := by simp [ecs]
theorem ecs_take (L : List Ed) (n : Nat) : (ecs L).take (n * 2) = ecs (L.take n) := by
 by_cases h : n ≤ L.length
 ·conv => lhs; rw [← List.take_append_drop n L, ecs_app]
  rw [List.take_left' (by rw [ecs_len, List.length_take]; omega)]
 ·rw [List.take_of_length_le (by rw [ecs_len]; omega), List.take_of_length_le (by omega)]
theorem ecs_drop (L : List Ed) (n : Nat) : (ecs L).drop (n * 2) = ecs (L.drop n) := by
 by_cases h : n ≤ L.length
 ·conv => lhs; rw [← List.take_append_drop n L, ecs_app]
  rw [List.drop_left' (by rw [ecs_len, List.length_take]; omega)]
 ·rw [List.drop_of_length_le (by rw [ecs_len]; omega), List.drop_of_length_le (by omega)]; rfl
def Apart (x y : Vx × Value) : Prop := ∀ k, x.2.ownBlock = some k → y.2.ownBlock ≠ some k
structure GW (w : World) (base : Nat) (sv : Value) (L : List (Vx × Value)) : Prop where
 row : w.ownsRow base 65 3 sv L.length (gcs L)
 eds : ∀ x ∈ L, w.ownsRow base 62 2 x.2 x.1.es.length (ecs x.1.es)
 apart : L.Pairwise Apart
theorem own_keep {w w' : World} {base : Nat} {e : TypeId} {size : Nat} {v : Value} {n : Nat} {xs : List Value} {S : Nat → Prop} (h : w.ownsRow base e size v n xs) (f : Fr w w' S) (hS : ∀ k, v.ownBlock = some k → ¬ S k) : w'.ownsRow base e size v n xs := by
 refine ⟨h.1, ?_⟩
 rcases h.2 with hn | ⟨g, cap, cur, rfl, hb, hg, rest⟩
 ·exact .inl hn
 ·exact .inr ⟨g, cap, cur, rfl, hb, (f.block g (Array.getElem?_eq_some_iff.1 hg).1 (hS g rfl)).trans hg, rest⟩
theorem own_diff {w : World} {base base' : Nat} {e t : TypeId} {size size' n n' : Nat} {v v' : Value} {xs xs' : List Value} (h : w.ownsRow base e size v n xs) (h' : w.ownsRow base' t size' v' n' xs') (hn : e ≠ t) : ∀ k, v'.ownBlock = some k → v.ownBlock ≠ some k := by
 intro k hk hv
 rcases h.2 with ⟨rfl, _⟩ | ⟨g, cap, cur, rfl, _, hg, _⟩
 ·cases hv
 ·rcases h'.2 with ⟨rfl, _⟩ | ⟨g', cap', cur', rfl, _, hg', _⟩
  ·cases hk
  ·cases hv; cases hk
   rw [hg] at hg'
   cases hg'
   exact hn rfl
section
variable {w : World} {base : Nat} {sv : Value} {L : List (Vx × Value)}
theorem GW.keep (h : GW w base sv L) {w' : World} {S : Nat → Prop} (f : Fr w w' S) (hS : ∀ k, S k → k < base) : GW w' base sv L :=
 ⟨own_keep h.row f (fun k hk hs => by have := (h.row.lt k hk).1; have := hS k hs; omega), fun x hx => own_keep (h.eds x hx) f (fun k hk hs => by have := ((h.eds x hx).lt k hk).1; have := hS k hs; omega), h.apart⟩
theorem GW.new (h : GW w base sv L) {w' : World} (hb : Below w.heap.size w w') : GW w' base sv L := h.keep (Fr.ofBelow hb (fun _ => False)) (fun _ hk => hk.elim)
theorem GW.at_ (h : GW w base sv L) : ∃ ao cap, sv = .slice ao L.length cap ∧ VxAt w (fun k => base ≤ k) ao (L.map (·.1)) := by
 rcases h.row.2 with ⟨h1, h2⟩ | ⟨g, cap, cur, h1, hb, hg, hn, hc, hcs, ht⟩
 ·refine ⟨none, 0, by rw [h1, h2], fun hl => ?_⟩
  rw [List.length_map] at hl; omega
 ·refine ⟨some ⟨g, 0, none⟩, cap, h1, fun _ => ⟨g, 0, rfl, hb, fun j hj => ?_⟩⟩
  have hj' : j < L.length := by simpa using hj
  have hcell : ∀ i (u : Value), (gcs L)[i]? = some u → w.cell? ⟨g, i, none⟩ = some u := fun i u hu => by
   have := h.row.cells (g := g) (by rw [h1]; rfl) i u hu
   rwa [Addr.add_lit, Nat.zero_add] at this
  have hL : L = L.take j ++ L[j] :: L.drop (j + 1) := by rw [← List.drop_eq_getElem_cons hj', List.take_append_drop]
  have ha := gcs_at (L.take j) (L.drop (j + 1)) L[j]
  rw [← hL, List.length_take, Nat.min_eq_left (by omega)] at ha
  rw [Nat.zero_add]
  have he := h.eds L[j] (List.getElem_mem hj')
  obtain ⟨eo, m, ec, hv⟩ := own_any he
  rw [hv] at he
  obtain ⟨hm, hE⟩ := own_eds he
  rw [List.getElem_map]
  refine ⟨eo, ec, hcell _ _ ha.1, hcell _ _ ha.2.1, ?_, hE.mono (fun k _ hk => hk.1)⟩
  rw [hcell _ _ ha.2.2, hv, hm]
end
theorem over_take_in (cur : List Value) (o : Nat) (vs : List Value) {N : Nat} (h : o + vs.length ≤ N) (hN : N ≤ cur.length) : (over cur o vs).take N = over (cur.take N) o vs := by
 unfold over
 rw [List.take_append, List.take_of_length_le (by simp; omega), List.take_take, Nat.min_eq_left (by omega), List.drop_take]
 congr 1
 congr 1
 simp
 omega
theorem over_third (a b : List Value) (u0 u1 u2 ev : Value) : over (a ++ ([u0, u1, u2] ++ b)) (a.length + 2) [ev] = a ++ ([u0, u1, ev] ++ b) := by
 unfold over
 have e1 : a ++ ([u0, u1, u2] ++ b) = (a ++ [u0, u1]) ++ (u2 :: b) := by simp
 have e2 : a ++ ([u0, u1, u2] ++ b) = (a ++ [u0, u1, u2]) ++ b := by simp
 conv => lhs; arg 1; rw [e1, List.take_left' (by simp)]
 rw [e2, List.drop_left' (by simp)]
 simp
theorem GW.put {w W : World} {base : Nat} {rb cap : Nat} {A B : List (Vx × Value)} {x : Vx × Value} (h : GW w base (.slice (some ⟨rb, 0, none⟩) (A ++ x :: B).length cap) (A ++ x :: B)) {es : List Ed} {ev : Value} (hf : Fr w W (fun k => x.2.ownBlock = some k))
  (ho : W.ownsRow base 62 2 ev es.length (ecs es)) (hat : ev.ownBlock = x.2.ownBlock ∨ ∀ k, ev.ownBlock = some k → w.heap.size ≤ k) :
  GW (W.setCell ⟨rb, A.length * 3 + 2, none⟩ ev) base (.slice (some ⟨rb, 0, none⟩) (A ++ x :: B).length cap) (A ++ (⟨x.1.id, x.1.val, es⟩, ev) :: B) := by
 have hne : ∀ y ∈ A ++ x :: B, y.2.ownBlock ≠ some rb := fun y hy e => own_diff h.row (h.eds y hy) (by decide) rb e rfl
 have hap := h.apart
 rw [List.pairwise_append, List.pairwise_cons] at hap
 have hap' : ∀ y, (y ∈ A ∨ y ∈ B) → ∀ k, y.2.ownBlock = some k → x.2.ownBlock ≠ some k := by
  rintro y (hy | hy) k hk hx
  ·exact hap.2.2 y hy x (by simp) k hk hx
  ·exact hap.2.1.1 y hy k hx hk
 have hlt : ∀ y ∈ A ++ x :: B, ∀ k, y.2.ownBlock = some k → k < w.heap.size := fun y hy k hk => ((h.eds y hy).lt k hk).2
 have hev : ∀ y, (y ∈ A ∨ y ∈ B) → ∀ k, y.2.ownBlock = some k → ev.ownBlock ≠ some k := by
  intro y hy k hk e
  rcases hat with e' | e'
  ·rw [e'] at e; exact hap' y hy k hk e
  ·have := e' k e
   have := hlt y (by rcases hy with hy | hy <;> simp [hy]) k hk
   omega
 have hrb : rb < w.heap.size := (h.row.lt rb rfl).2
 have hevr : ev.ownBlock ≠ some rb := by
  rcases hat with e' | e'
  ·rw [e']; exact hne x (by simp)
  ·intro e; have := e' rb e; omega
 have fs : Fr W (W.setCell ⟨rb, A.length * 3 + 2, none⟩ ev) (fun k => k = rb) := Fr.setCell (S := fun k => k = rb) W ⟨rb, _, none⟩ ev rfl
 have hxr : x.2.ownBlock ≠ some rb := hne x (by simp)
 refine ⟨?_, fun y hy => ?_, ?_⟩
 ·have hrow := own_keep h.row hf (fun k hk e => by cases hk; exact hxr e)
  obtain ⟨g, cap', cur, h1, hn, hB, ht⟩ := own_blk hrow (by rw [List.length_append, List.length_cons]; omega)
  cases h1
  have hlen : (A ++ x :: B).length = A.length + 1 + B.length := by simp; omega
  have hmul : (A ++ x :: B).length * 3 ≤ cap * 3 := Nat.mul_le_mul_right 3 hn
  have hB2 := (hB.set (A.length * 3 + 2) [ev] (by simp only [List.length_singleton]; omega)).own hn
  have hsz := hB.size
  rw [over_take_in _ _ _ (by simp only [List.length_singleton]; omega) (by omega), ht] at hB2
  have e : over (gcs (A ++ x :: B)) (A.length * 3 + 2) [ev] = gcs (A ++ (⟨x.1.id, x.1.val, es⟩, ev) :: B) := by
   have hl := gcs_len A
   rw [gcs_app, gcs_cons, gcs_app, gcs_cons, ← hl]
   exact over_third _ _ _ _ _ _
  rw [e] at hB2
  rw [show (A ++ ((⟨x.1.id, x.1.val, es⟩ : Vx), ev) :: B).length = (A ++ x :: B).length by simp]
  exact hB2
 ·rcases List.mem_append.1 hy with hy | hy
  ·exact own_keep (own_keep (h.eds y (by simp [hy])) hf (fun k hk e => hap' y (.inl hy) k hk e)) fs (fun k hk e => by subst e; exact hne y (by simp [hy]) hk)
  ·rcases List.mem_cons.1 hy with rfl | hy
   ·exact own_keep ho fs (fun k hk e => by subst e; exact hevr hk)
   ·exact own_keep (own_keep (h.eds y (by simp [hy])) hf (fun k hk e => hap' y (.inr hy) k hk e)) fs (fun k hk e => by subst e; exact hne y (by simp [hy]) hk)
 ·rw [List.pairwise_append, List.pairwise_cons]
  refine ⟨hap.1, ⟨fun y hy k hk e => hev y (.inr hy) k e hk, hap.2.1.2⟩, fun y hy z hz => ?_⟩
  rcases List.mem_cons.1 hz with rfl | hz
  ·exact fun k hk e => hev y (.inl hy) k hk e
  ·exact hap.2.2 y hy z (by simp [hz])
theorem GW.del {w W : World} {base : Nat} {sv sv' : Value} {A B : List (Vx × Value)} {x : Vx × Value} (h : GW w base sv (A ++ x :: B)) (hf : Fr w W (fun k => sv.ownBlock = some k)) (ho : W.ownsRow base 65 3 sv' (A ++ B).length (gcs (A ++ B))) : GW W base sv' (A ++ B) := by
 have hap := h.apart
 rw [List.pairwise_append, List.pairwise_cons] at hap
 refine ⟨ho, fun y hy => ?_, ?_⟩
 ·have hy' : y ∈ A ++ x :: B := by rcases List.mem_append.1 hy with h | h <;> simp [h]
  exact own_keep (h.eds y hy') hf (fun k hk e => own_diff h.row (h.eds y hy') (by decide) k hk e)
 ·rw [List.pairwise_append]
  exact ⟨hap.1, hap.2.1.2, fun y hy z hz => hap.2.2 y hy z (by simp [hz])⟩
theorem GW.ins {w W : World} {base : Nat} {sv sv' : Value} {A B : List (Vx × Value)} {v : Vx} (h : GW w base sv (A ++ B)) (hf : Fr w W (fun k => sv.ownBlock = some k)) (hv : v.es = []) (ho : W.ownsRow base 65 3 sv' (A ++ (v, Value.slice none 0 0) :: B).length (gcs (A ++ (v, Value.slice none 0 0) :: B))) : GW W base sv' (A ++ (v, Value.slice none 0 0) :: B) := by
 have hap := h.apart
 rw [List.pairwise_append] at hap
 refine ⟨ho, fun y hy => ?_, ?_⟩
 ·have hy' : y ∈ A ++ B ∨ y = (v, Value.slice none 0 0) := by
   rcases List.mem_append.1 hy with h | h
   ·simp [h]
   ·rcases List.mem_cons.1 h with h | h <;> simp [h]
  rcases hy' with hy' | rfl
  ·exact own_keep (h.eds y hy') hf (fun k hk e => own_diff h.row (h.eds y hy') (by decide) k hk e)
  ·rw [show ((v, Value.slice none 0 0) : Vx × Value).1.es = [] from hv]
   exact World.ownsRow_nil _ _ _ _
 ·rw [List.pairwise_append, List.pairwise_cons]
  refine ⟨hap.1, ⟨fun y _ k hk => (by cases hk), hap.2.1⟩, fun y hy z hz => ?_⟩
  rcases List.mem_cons.1 hz with rfl | hz
  ·exact fun k _ e => (by cases e)
  ·exact hap.2.2 y hy z hz
end
set_option maxHeartbeats 4000000 in
theorem bsearchW_any {w : World} {P : Nat → Prop} {ao : Option Addr} {G : List Vx} (cap : Nat) (x : Int) (h : VxAt w P ao G) (hl : G.length ≤ 1073741824) (hr : Rise (ids G)) :
  Calls Tryz.prog 118 #[.slice ao G.length cap, .int .i64 x, .func (.func 119) #[] #[]] w fun r w' => r = .returned (.tuple #[.int .i64 (findN (ids G) x), .bool (foundB (ids G) x)]) ∧ Below w.heap.size w w' := by
 have HR : Hid (Rise (ids G)) := hr
 clear hr
 go_enter Tryz.func118, Tryz.ntmps118
 go_wp2
 go_loopw [9, 10, 11] (fun u v _ wr => ∃ (i j : Nat), i ≤ j ∧ j ≤ G.length ∧ u = .int .i64 i ∧ v = .int .i64 j ∧ Hid (∀ q (h : q < (ids G).length), q < i → (ids G)[q] < x) ∧ Hid (∀ q (h : q < (ids G).length), j ≤ q → x ≤ (ids G)[q]) ∧ Below w.heap.size w wr) (fun u v _ _ => (intOf v).toNat - (intOf u).toNat)
 case atStart => exact ⟨0, G.length, Nat.zero_le _, Nat.le_refl _, rfl, rfl, fun q _ hq => absurd hq (by omega), fun q hq hq' => absurd hq (by rw [ids_len]; omega), Below.refl _ _⟩
 case round =>
  obtain ⟨i, j, hij, hj, rfl, rfl, H1, H2, hb⟩ := hrel
  by_cases hlt : i < j
  ·obtain ⟨m, HM⟩ : ∃ m : Nat, Hid (m = (i + j) / 2) := ⟨_, rfl⟩
   have hm : m = (i + j) / 2 := HM.out
   have hmi : i ≤ m := by omega
   have hmj : m < j := by omega
   have hmG : m < G.length := by omega
   obtain ⟨b, off, rfl, hP, hc⟩ := h (by omega)
   obtain ⟨eo, ec, c0, c1, c2, c3⟩ := hc m hmG
   have hbb := lt_cell c0
   have d0 := (hb.cell (p := ⟨b, off + m * 3, none⟩) hbb).trans c0
   have d1 := (hb.cell (p := ⟨b, off + m * 3 + 1, none⟩) hbb).trans c1
   have d2 := (hb.cell (p := ⟨b, off + m * 3 + 2, none⟩) hbb).trans c2
   have HG : Hid ((ids G)[m]'(by rw [ids_len]; exact hmG) = G[m].id) := ids_get G m hmG
   generalize G[m] = y at d0 d1 d2 HG
   have hdv : ((i : Int) + (j : Int)) / 2 = m := by omega
   have hF := fun w => find1_any y.id y.val x eo y.es.length ec w
   clear c0 c1 c2 c3 hc hm
   by_cases hy : y.id < x
   ·rw [show cmpI y.id x = -1 from if_pos hy] at hF
    go_wp2_with (go_at_call 119; refine (hF _).mono ?_; rintro r w1 ⟨rfl, hb1⟩)
    go_roundw
    case rel => exact ⟨m + 1, j, by omega, by omega, by go_num, rfl, below_step HR.out (by rw [ids_len]; exact hmG) HG.out hy, H2, hb.trans (hb1.mono hb.size)⟩
    case measure => simp [intOf]; omega
   ·obtain ⟨c, hcc, hc0⟩ : ∃ c, cmpI y.id x = c ∧ ¬ c < 0 := ⟨_, rfl, by unfold cmpI; rw [if_neg hy]; split <;> omega⟩
    rw [hcc] at hF
    clear hcc
    go_wp2_with (go_at_call 119; refine (hF _).mono ?_; rintro r w1 ⟨rfl, hb1⟩)
    go_roundw
    case rel => exact ⟨i, m, by omega, by omega, rfl, rfl, H1, above_step HR.out (by rw [ids_len]; exact hmG) HG.out (by omega), hb.trans (hb1.mono hb.size)⟩
    case measure => simp [intOf]; omega
  ·obtain rfl : i = j := by omega
   have HF : Hid (findN (ids G) x = i) := findN_eq (by rw [ids_len]; exact hj) H1.out (fun q hq hqi => by have := H2.out q hq hqi; omega)
   by_cases hin : i < G.length
   ·obtain ⟨b, off, rfl, hP, hc⟩ := h (by omega)
    obtain ⟨eo, ec, c0, c1, c2, c3⟩ := hc i hin
    have hbb := lt_cell c0
    have d0 := (hb.cell (p := ⟨b, off + i * 3, none⟩) hbb).trans c0
    have d1 := (hb.cell (p := ⟨b, off + i * 3 + 1, none⟩) hbb).trans c1
    have d2 := (hb.cell (p := ⟨b, off + i * 3 + 2, none⟩) hbb).trans c2
    have HG : Hid ((ids G)[i]'(by rw [ids_len]; exact hin) = G[i].id) := ids_get G i hin
    have HX : Hid (¬ G[i].id < x) := by
     show ¬ _
     rw [← HG.out]
     have := H2.out i (by rw [ids_len]; exact hin) (Nat.le_refl _)
     omega
    have HB : Hid (foundB (ids G) x = (cmpI G[i].id x == 0)) := by
     show _ = _
     unfold foundB
     rw [HF.out, List.getElem?_eq_getElem (by rw [ids_len]; exact hin), HG.out]
     exact found_cmp HX.out
    generalize G[i] = y at d0 d1 d2 HG HX HB
    have hF := fun w => find1_any y.id y.val x eo y.es.length ec w
    clear c0 c1 c2 c3 hc
    generalize cmpI y.id x = c at hF HB
    go_wp2_with (go_at_call 119; refine (hF _).mono ?_; rintro r w1 ⟨rfl, hb1⟩)
    go_ret2
    exact ⟨by rw [HF.out, HB.out]; rfl, hb.trans (hb1.mono hb.size)⟩
   ·have HB : Hid (foundB (ids G) x = false) := by
     show _ = _
     unfold foundB
     rw [HF.out, List.getElem?_eq_none (by rw [ids_len]; omega)]; rfl
    go_wp2
    go_ret2
    exact ⟨by rw [HF.out, HB.out]; rfl, hb⟩
theorem findW_any {w : World} {P : Nat → Prop} {ao : Option Addr} {G : List Vx} (cap : Nat) (x : Int) (h : VxAt w P ao G) (hl : G.length ≤ 1073741824) (hr : Rise (ids G)) :
  Calls Tryz.prog 99 #[.agg #[.slice ao G.length cap], .int .i64 x] w fun r w' => r = .returned (.tuple #[.int .i64 (findN (ids G) x), .bool (foundB (ids G) x)]) ∧ Below w.heap.size w w' := by
 have hB := fun o => bsearchW_any (w := w.alloc o) cap x (h.new ((Below.refl _ _).alloc (Nat.le_refl _) _)) hl hr
 clear h hr
 go_enter Tryz.func99, Tryz.ntmps99
 go_wp2_with (go_at_call 118; refine (hB _).mono ?_; rintro r w1 ⟨rfl, hb1⟩)
 go_ret2
 exact ⟨rfl, ((Below.refl _ _).alloc (Nat.le_refl _) _).trans (hb1.mono (by simp))⟩
theorem findE1_any (x y i : Int) (w : World) :
  Calls Tryz.prog 209 #[.agg #[.int .i64 x, .int .i64 y], .int .i64 i] w fun r w' => r = .returned (.int .i64 (cmpI x i)) ∧ Below w.heap.size w w' := by
 go_enter Tryz.func209, Tryz.ntmps209
 go_wp2_with (go_at_call 106; refine (compare_any _ _ _).mono ?_; rintro r w1 ⟨rfl, rfl⟩)
 go_ret
 exact ⟨rfl, (Below.refl _ _).alloc (Nat.le_refl _) _⟩
set_option maxHeartbeats 4000000 in
theorem bsearchE_any {w : World} {P : Nat → Prop} {ao : Option Addr} {G : List Ed} (cap : Nat) (x : Int) (h : EdAt w P ao G) (hl : G.length ≤ 1073741824) (hr : Rise (ends G)) :
  Calls Tryz.prog 208 #[.slice ao G.length cap, .int .i64 x, .func (.func 209) #[] #[]] w fun r w' => r = .returned (.tuple #[.int .i64 (findN (ends G) x), .bool (foundB (ends G) x)]) ∧ Below w.heap.size w w' := by
 have HR : Hid (Rise (ends G)) := hr
 clear hr
 go_enter Tryz.func208, Tryz.ntmps208
 go_wp2
 go_loopw [9, 10, 11] (fun u v _ wr => ∃ (i j : Nat), i ≤ j ∧ j ≤ G.length ∧ u = .int .i64 i ∧ v = .int .i64 j ∧ Hid (∀ q (h : q < (ends G).length), q < i → (ends G)[q] < x) ∧ Hid (∀ q (h : q < (ends G).length), j ≤ q → x ≤ (ends G)[q]) ∧ Below w.heap.size w wr) (fun u v _ _ => (intOf v).toNat - (intOf u).toNat)
 case atStart => exact ⟨0, G.length, Nat.zero_le _, Nat.le_refl _, rfl, rfl, fun q _ hq => absurd hq (by omega), fun q hq hq' => absurd hq (by rw [ends_len]; omega), Below.refl _ _⟩
 case round =>
  obtain ⟨i, j, hij, hj, rfl, rfl, H1, H2, hb⟩ := hrel
  by_cases hlt : i < j
  ·obtain ⟨m, HM⟩ : ∃ m : Nat, Hid (m = (i + j) / 2) := ⟨_, rfl⟩
   have hm : m = (i + j) / 2 := HM.out
   have hmi : i ≤ m := by omega
   have hmj : m < j := by omega
   have hmG : m < G.length := by omega
   obtain ⟨b, off, rfl, hP, hc⟩ := h (by omega)
   obtain ⟨c0, c1⟩ := hc m hmG
   have hbb := lt_cell c0
   have d0 := (hb.cell (p := ⟨b, off + m * 2, none⟩) hbb).trans c0
   have d1 := (hb.cell (p := ⟨b, off + m * 2 + 1, none⟩) hbb).trans c1
   have HG : Hid ((ends G)[m]'(by rw [ends_len]; exact hmG) = G[m].t) := ends_get G m hmG
   generalize G[m] = y at d0 d1 HG
   have hdv : ((i : Int) + (j : Int)) / 2 = m := by omega
   have hF := fun w => findE1_any y.t y.w x w
   clear c0 c1 hc hm
   by_cases hy : y.t < x
   ·rw [show cmpI y.t x = -1 from if_pos hy] at hF
    go_wp2_with (go_at_call 209; refine (hF _).mono ?_; rintro r w1 ⟨rfl, hb1⟩)
    go_roundw
    case rel => exact ⟨m + 1, j, by omega, by omega, by go_num, rfl, below_step HR.out (by rw [ends_len]; exact hmG) HG.out hy, H2, hb.trans (hb1.mono hb.size)⟩
    case measure => simp [intOf]; omega
   ·obtain ⟨c, hcc, hc0⟩ : ∃ c, cmpI y.t x = c ∧ ¬ c < 0 := ⟨_, rfl, by unfold cmpI; rw [if_neg hy]; split <;> omega⟩
    rw [hcc] at hF
    clear hcc
    go_wp2_with (go_at_call 209; refine (hF _).mono ?_; rintro r w1 ⟨rfl, hb1⟩)
    go_roundw
    case rel => exact ⟨i, m, by omega, by omega, rfl, rfl, H1, above_step HR.out (by rw [ends_len]; exact hmG) HG.out (by omega), hb.trans (hb1.mono hb.size)⟩
    case measure => simp [intOf]; omega
  ·obtain rfl : i = j := by omega
   have HF : Hid (findN (ends G) x = i) := findN_eq (by rw [ends_len]; exact hj) H1.out (fun q hq hqi => by have := H2.out q hq hqi; omega)
   by_cases hin : i < G.length
   ·obtain ⟨b, off, rfl, hP, hc⟩ := h (by omega)
    obtain ⟨c0, c1⟩ := hc i hin
    have hbb := lt_cell c0
    have d0 := (hb.cell (p := ⟨b, off + i * 2, none⟩) hbb).trans c0
    have d1 := (hb.cell (p := ⟨b, off + i * 2 + 1, none⟩) hbb).trans c1
    have HG : Hid ((ends G)[i]'(by rw [ends_len]; exact hin) = G[i].t) := ends_get G i hin
    have HX : Hid (¬ G[i].t < x) := by
     show ¬ _
     rw [← HG.out]
     have := H2.out i (by rw [ends_len]; exact hin) (Nat.le_refl _)
     omega
    have HB : Hid (foundB (ends G) x = (cmpI G[i].t x == 0)) := by
     show _ = _
     unfold foundB
     rw [HF.out, List.getElem?_eq_getElem (by rw [ends_len]; exact hin), HG.out]
     exact found_cmp HX.out
    generalize G[i] = y at d0 d1 HG HX HB
    have hF := fun w => findE1_any y.t y.w x w
    clear c0 c1 hc
    generalize cmpI y.t x = c at hF HB
    go_wp2_with (go_at_call 209; refine (hF _).mono ?_; rintro r w1 ⟨rfl, hb1⟩)
    go_ret2
    exact ⟨by rw [HF.out, HB.out]; rfl, hb.trans (hb1.mono hb.size)⟩
   ·have HB : Hid (foundB (ends G) x = false) := by
     show _ = _
     unfold foundB
     rw [HF.out, List.getElem?_eq_none (by rw [ends_len]; omega)]; rfl
    go_wp2
    go_ret2
    exact ⟨by rw [HF.out, HB.out]; rfl, hb⟩
theorem findedge_any {w : World} {P : Nat → Prop} {ao : Option Addr} {G : List Ed} (cap : Nat) (x : Int) (h : EdAt w P ao G) (hl : G.length ≤ 1073741824) (hr : Rise (ends G)) :
  Calls Tryz.prog 174 #[.slice ao G.length cap, .int .i64 x] w fun r w' => r = .returned (.tuple #[.int .i64 (findN (ends G) x), .bool (foundB (ends G) x)]) ∧ Below w.heap.size w w' := by
 have hB := bsearchE_any (w := w) cap x h hl hr
 clear h hr
 go_enter Tryz.func174, Tryz.ntmps174
 go_wp2_with (go_at_call 208; refine hB.mono ?_; rintro r w1 ⟨rfl, hb1⟩)
 go_ret2
 exact ⟨rfl, hb1⟩
end Go.Proofs.YtmgjlamglhpnaaaGreat
