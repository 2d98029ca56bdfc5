/- What a request does to a graph: on plain lists. -/
import Derived.Test.YthnhmhjcpdomcaaMuMath
namespace Go.Proofs.Ythnhmhjcpdomcaa
open Go.RowKit
/-- What a request does to its vertex. -/
def doV (v : Vx) (m : Mu) : List Vx × Bool :=
  if m.k = 2 then ([], true)
  else if m.k = 1 then (if foundB (ends v.es) m.t then ([⟨v.id, v.val, v.es.take (findN (ends v.es) m.t) ++ v.es.drop (findN (ends v.es) m.t + 1)⟩], true) else ([v], false))
  else if m.k = 4 then (if foundB (ends v.es) m.t then ([v], false) else ([⟨v.id, v.val, v.es.take (findN (ends v.es) m.t) ++ ⟨m.t, m.v⟩ :: v.es.drop (findN (ends v.es) m.t)⟩], true))
  else ([v], false)
/-- What a request does where its vertex is not there. -/
def noV (m : Mu) : List Vx × Bool := if m.k = 3 then ([⟨m.i, m.v, []⟩], true) else ([], false)
/-- What a request does to a graph, and whether it changed something. -/
def doG (G : List Vx) (m : Mu) : List Vx × Bool :=
  if foundB (ids G) m.i then
    match G.drop (findN (ids G) m.i) with
    | [] => (G, false)
    | v :: B => (G.take (findN (ids G) m.i) ++ ((doV v m).1 ++ B), (doV v m).2)
  else (G.take (findN (ids G) m.i) ++ ((noV m).1 ++ G.drop (findN (ids G) m.i)), (noV m).2)
/-- Numbers ahead of x, and numbers that are not. -/
theorem findN_app {A B : List Int} {x : Int} (hA : ∀ a ∈ A, a < x) (hB : ∀ b ∈ B, ¬ b < x) : findN (A ++ B) x = A.length := by
  refine findN_eq (by simp) (fun j h hj => ?_) (fun j h hj => ?_)
  · rw [List.getElem_append_left hj]
    exact hA _ (List.getElem_mem _)
  · rw [List.getElem_append_right hj]
    exact hB _ (List.getElem_mem _)
theorem foundB_app {A B : List Int} {x : Int} (hA : ∀ a ∈ A, a < x) (hB : ∀ b ∈ B, ¬ b < x) : foundB (A ++ B) x = (B.head? == some x) := by
  unfold foundB
  rw [findN_app hA hB]
  congr 1
  rw [List.getElem?_append_right (Nat.le_refl _), Nat.sub_self]
  cases B <;> rfl
theorem rise_pw {l : List Int} : Rise l ↔ l.Pairwise (· < ·) := by
  constructor
  · intro h
    rw [List.pairwise_iff_getElem]
    intro i j hi hj hij
    exact h.lt j i hj hij
  · intro h j hj
    exact List.pairwise_iff_getElem.1 h j (j + 1) (by omega) hj (by omega)
/-- A graph whose vertices and edges rise. -/
structure Fine (G : List Vx) : Prop where
  ids : (ids G).Pairwise (· < ·)
  es : ∀ v ∈ G, (ends v.es).Pairwise (· < ·)
theorem ids_app (A B : List Vx) : ids (A ++ B) = ids A ++ ids B := by simp [ids]
theorem ids_cons (v : Vx) (B : List Vx) : ids (v :: B) = v.id :: ids B := rfl
theorem ends_app (A B : List Ed) : ends (A ++ B) = ends A ++ ends B := by simp [ends]
theorem ends_cons (v : Ed) (B : List Ed) : ends (v :: B) = v.t :: ends B := rfl
/-- Of numbers that rise: those below x, those that are not. -/
theorem take_lt (l : List Int) (x : Int) : ∀ a ∈ l.take (findN l x), a < x := by
  intro a ha
  obtain ⟨j, hj, rfl⟩ := List.getElem_of_mem ha
  rw [List.getElem_take]
  obtain ⟨h', h''⟩ := findN_lt l x j (by rw [List.length_take] at hj; omega)
  exact h''
theorem drop_ge {l : List Int} (hr : l.Pairwise (· < ·)) (x : Int) : ∀ b ∈ l.drop (findN l x), x ≤ b := by
  intro b hb
  obtain ⟨j, hj, rfl⟩ := List.getElem_of_mem hb
  rw [List.length_drop] at hj
  rw [List.getElem_drop]
  have h0 := findN_stop l x (by omega)
  by_cases e : j = 0
  · subst e; simp only [Nat.add_zero]; omega
  · have := List.pairwise_iff_getElem.1 hr (findN l x) (findN l x + j) (by omega) (by omega) (by omega)
    omega
theorem ids_take (G : List Vx) (n : Nat) : (ids G).take n = ids (G.take n) := by simp [ids, List.map_take]
theorem ids_drop (G : List Vx) (n : Nat) : (ids G).drop n = ids (G.drop n) := by simp [ids, List.map_drop]
theorem ends_take (G : List Ed) (n : Nat) : (ends G).take n = ends (G.take n) := by simp [ends, List.map_take]
theorem ends_drop (G : List Ed) (n : Nat) : (ends G).drop n = ends (G.drop n) := by simp [ends, List.map_drop]
/-- A vertex is there, or not: how the list falls apart. -/
theorem split_ids {G : List Vx} (hr : (ids G).Pairwise (· < ·)) (x : Int) :
    (∃ A v B, G = A ++ v :: B ∧ v.id = x ∧ (∀ a ∈ A, a.id < x) ∧ (∀ b ∈ B, x < b.id) ∧ findN (ids G) x = A.length ∧ foundB (ids G) x = true) ∨
    (∃ A B, G = A ++ B ∧ (∀ a ∈ A, a.id < x) ∧ (∀ b ∈ B, x < b.id) ∧ findN (ids G) x = A.length ∧ foundB (ids G) x = false) := by
  have hA : ∀ a ∈ G.take (findN (ids G) x), a.id < x := fun a ha => take_lt (ids G) x a.id (by rw [ids_take]; exact List.mem_map_of_mem ha)
  have hB : ∀ b ∈ G.drop (findN (ids G) x), x ≤ b.id := fun b hb => drop_ge hr x b.id (by rw [ids_drop]; exact List.mem_map_of_mem hb)
  have hl : findN (ids G) x = (G.take (findN (ids G) x)).length := by
    have := findN_le (ids G) x
    rw [ids_len] at this
    rw [List.length_take]; omega
  have hG : G = G.take (findN (ids G) x) ++ G.drop (findN (ids G) x) := (List.take_append_drop _ _).symm
  have hf : foundB (ids G) x = ((ids (G.drop (findN (ids G) x))).head? == some x) := by
    conv => lhs; rw [hG, ids_app]
    exact foundB_app (fun a ha => by obtain ⟨v, hv, rfl⟩ := List.mem_map.1 ha; exact hA v hv) (fun b hb => by obtain ⟨v, hv, rfl⟩ := List.mem_map.1 hb; have := hB v hv; omega)
  cases hD : G.drop (findN (ids G) x) with
  | nil =>
    rw [hD] at hf hG
    exact .inr ⟨G.take (findN (ids G) x), [], hG, hA, fun b hb => (by cases hb), hl, by rw [hf]; rfl⟩
  | cons v B =>
    have hv := hB v (by rw [hD]; simp)
    have hr' := hr
    rw [hG, ids_app, List.pairwise_append, hD, ids_cons, List.pairwise_cons] at hr'
    rw [hD] at hf hG
    rw [ids_cons, List.head?_cons] at hf
    have hBB : ∀ b ∈ B, v.id < b.id := fun b hb => hr'.2.1.1 b.id (List.mem_map_of_mem hb)
    by_cases e : v.id = x
    · exact .inl ⟨_, v, B, hG, e, hA, fun b hb => by rw [← e]; exact hBB b hb, hl, by rw [hf, e]; simp⟩
    · refine .inr ⟨_, v :: B, hG, hA, fun b hb => ?_, hl, by rw [hf]; simpa using e⟩
      rcases List.mem_cons.1 hb with rfl | hb
      · omega
      · have := hBB b hb; omega
theorem split_ends {G : List Ed} (hr : (ends G).Pairwise (· < ·)) (x : Int) :
    (∃ A v B, G = A ++ v :: B ∧ v.t = x ∧ (∀ a ∈ A, a.t < x) ∧ (∀ b ∈ B, x < b.t) ∧ findN (ends G) x = A.length ∧ foundB (ends G) x = true) ∨
    (∃ A B, G = A ++ B ∧ (∀ a ∈ A, a.t < x) ∧ (∀ b ∈ B, x < b.t) ∧ findN (ends G) x = A.length ∧ foundB (ends G) x = false) := by
  have hA : ∀ a ∈ G.take (findN (ends G) x), a.t < x := fun a ha => take_lt (ends G) x a.t (by rw [ends_take]; exact List.mem_map_of_mem ha)
  have hB : ∀ b ∈ G.drop (findN (ends G) x), x ≤ b.t := fun b hb => drop_ge hr x b.t (by rw [ends_drop]; exact List.mem_map_of_mem hb)
  have hl : findN (ends G) x = (G.take (findN (ends G) x)).length := by
    have := findN_le (ends G) x
    rw [ends_len] at this
    rw [List.length_take]; omega
  have hG : G = G.take (findN (ends G) x) ++ G.drop (findN (ends G) x) := (List.take_append_drop _ _).symm
  have hf : foundB (ends G) x = ((ends (G.drop (findN (ends G) x))).head? == some x) := by
    conv => lhs; rw [hG, ends_app]
    exact foundB_app (fun a ha => by obtain ⟨v, hv, rfl⟩ := List.mem_map.1 ha; exact hA v hv) (fun b hb => by obtain ⟨v, hv, rfl⟩ := List.mem_map.1 hb; have := hB v hv; omega)
  cases hD : G.drop (findN (ends G) x) with
  | nil =>
    rw [hD] at hf hG
    exact .inr ⟨G.take (findN (ends G) x), [], hG, hA, fun b hb => (by cases hb), hl, by rw [hf]; rfl⟩
  | cons v B =>
    have hv := hB v (by rw [hD]; simp)
    have hr' := hr
    rw [hG, ends_app, List.pairwise_append, hD, ends_cons, List.pairwise_cons] at hr'
    rw [hD] at hf hG
    rw [ends_cons, List.head?_cons] at hf
    have hBB : ∀ b ∈ B, v.t < b.t := fun b hb => hr'.2.1.1 b.t (List.mem_map_of_mem hb)
    by_cases e : v.t = x
    · exact .inl ⟨_, v, B, hG, e, hA, fun b hb => by rw [← e]; exact hBB b hb, hl, by rw [hf, e]; simp⟩
    · refine .inr ⟨_, v :: B, hG, hA, fun b hb => ?_, hl, by rw [hf]; simpa using e⟩
      rcases List.mem_cons.1 hb with rfl | hb
      · omega
      · have := hBB b hb; omega
theorem doG_there {A B : List Vx} {v : Vx} {m : Mu} (hv : v.id = m.i) (hA : ∀ a ∈ A, a.id < m.i) (hB : ∀ b ∈ B, m.i < b.id) : doG (A ++ v :: B) m = (A ++ ((doV v m).1 ++ B), (doV v m).2) := by
  have hA' : ∀ a ∈ ids A, a < m.i := fun a ha => by obtain ⟨y, hy, rfl⟩ := List.mem_map.1 ha; exact hA y hy
  have hB' : ∀ b ∈ ids (v :: B), ¬ b < m.i := fun b hb => by
    rw [ids_cons, List.mem_cons] at hb
    rcases hb with rfl | hb
    · omega
    · obtain ⟨y, hy, rfl⟩ := List.mem_map.1 hb; have := hB y hy; omega
  have e1 : findN (ids (A ++ v :: B)) m.i = A.length := by rw [ids_app, findN_app hA' hB', ids_len]
  have e2 : foundB (ids (A ++ v :: B)) m.i = true := by rw [ids_app, foundB_app hA' hB', ids_cons, List.head?_cons, hv]; simp
  unfold doG
  rw [if_pos e2, e1, List.drop_left, List.take_left]
theorem doG_none {A B : List Vx} {m : Mu} (hA : ∀ a ∈ A, a.id < m.i) (hB : ∀ b ∈ B, m.i < b.id) : doG (A ++ B) m = (A ++ ((noV m).1 ++ B), (noV m).2) := by
  have hA' : ∀ a ∈ ids A, a < m.i := fun a ha => by obtain ⟨y, hy, rfl⟩ := List.mem_map.1 ha; exact hA y hy
  have hB' : ∀ b ∈ ids B, ¬ b < m.i := fun b hb => by
    obtain ⟨y, hy, rfl⟩ := List.mem_map.1 hb; have := hB y hy; omega
  have e1 : findN (ids (A ++ B)) m.i = A.length := by rw [ids_app, findN_app hA' hB', ids_len]
  have e2 : foundB (ids (A ++ B)) m.i = false := by
    rw [ids_app, foundB_app hA' hB']
    cases B with
    | nil => rfl
    | cons y B => have := hB y (by simp); rw [ids_cons, List.head?_cons]; simp; omega
  unfold doG
  rw [if_neg (by rw [e2]; simp), e1, List.drop_left, List.take_left]
/-- What a request makes of its vertex: of the same number, its edges rise. -/
theorem doV_ok {v : Vx} {m : Mu} (h : (ends v.es).Pairwise (· < ·)) : (doV v m).1.length ≤ 1 ∧ ∀ y ∈ (doV v m).1, y.id = v.id ∧ (ends y.es).Pairwise (· < ·) ∧ y.es.length ≤ v.es.length + 1 := by
  unfold doV
  split
  · exact ⟨by simp, fun y hy => (by cases hy)⟩
  · split
    · split
      · refine ⟨by simp, fun y hy => ?_⟩
        rw [List.mem_singleton] at hy
        subst hy
        refine ⟨rfl, ?_, by simp only [List.length_append, List.length_take, List.length_drop]; omega⟩
        simp only
        rw [ends_app, ← ends_take, ← ends_drop]
        refine h.sublist ?_
        conv => rhs; rw [← List.take_append_drop (findN (ends v.es) m.t) (ends v.es)]
        refine List.Sublist.append (List.Sublist.refl _) ?_
        rw [← List.drop_drop]
        exact List.drop_sublist _ _
      · exact ⟨by simp, fun y hy => by rw [List.mem_singleton] at hy; subst hy; exact ⟨rfl, h, by omega⟩⟩
    · split
      · split
        · exact ⟨by simp, fun y hy => by rw [List.mem_singleton] at hy; subst hy; exact ⟨rfl, h, by omega⟩⟩
        · rename_i hn
          refine ⟨by simp, fun y hy => ?_⟩
          rw [List.mem_singleton] at hy
          subst hy
          refine ⟨rfl, ?_, by simp only [List.length_append, List.length_take, List.length_cons, List.length_drop]; omega⟩
          rcases split_ends h m.t with ⟨A, y, B, h1, h2, h3, h4, h5, h6⟩ | ⟨A, B, h1, h3, h4, h5, h6⟩
          · rw [h6] at hn; simp at hn
          · simp only
            rw [h5, h1, List.take_left, List.drop_left, ends_app, ends_cons]
            rw [h1, ends_app, List.pairwise_append] at h
            rw [List.pairwise_append, List.pairwise_cons]
            refine ⟨h.1, ⟨fun b hb => ?_, h.2.1⟩, fun a ha b hb => ?_⟩
            · obtain ⟨y, hy, rfl⟩ := List.mem_map.1 hb; exact h4 y hy
            · rcases List.mem_cons.1 hb with rfl | hb
              · obtain ⟨y, hy, rfl⟩ := List.mem_map.1 ha; exact h3 y hy
              · exact h.2.2 a ha b hb
      · exact ⟨by simp, fun y hy => by rw [List.mem_singleton] at hy; subst hy; exact ⟨rfl, h, by omega⟩⟩
/-- What stands in a vertex's place. -/
theorem fine_put {A B C : List Vx} {x : Int} (hA : ∀ a ∈ A, a.id < x) (hB : ∀ b ∈ B, x < b.id) (hC1 : C.length ≤ 1) (hC : ∀ y ∈ C, y.id = x ∧ (ends y.es).Pairwise (· < ·)) (hA1 : Fine A) (hB1 : Fine B) : Fine (A ++ (C ++ B)) := by
  refine ⟨?_, fun v hv => ?_⟩
  · rw [ids_app, ids_app, List.pairwise_append, List.pairwise_append]
    refine ⟨hA1.ids, ⟨?_, hB1.ids, fun a ha b hb => ?_⟩, fun a ha b hb => ?_⟩
    · match C, hC1 with
      | [], _ => exact List.Pairwise.nil
      | [y], _ => exact List.pairwise_singleton _ _
    · obtain ⟨y, hy, rfl⟩ := List.mem_map.1 ha
      obtain ⟨z, hz, rfl⟩ := List.mem_map.1 hb
      rw [(hC y hy).1]
      exact hB z hz
    · obtain ⟨y, hy, rfl⟩ := List.mem_map.1 ha
      have := hA y hy
      rcases List.mem_append.1 hb with hb | hb
      · obtain ⟨z, hz, rfl⟩ := List.mem_map.1 hb
        rw [(hC z hz).1]; exact this
      · obtain ⟨z, hz, rfl⟩ := List.mem_map.1 hb
        have := hB z hz; omega
  · rcases List.mem_append.1 hv with h | h
    · exact hA1.es v h
    · rcases List.mem_append.1 h with h | h
      · exact (hC v h).2
      · exact hB1.es v h
theorem Fine.left {A B : List Vx} (h : Fine (A ++ B)) : Fine A := ⟨by have := h.ids; rw [ids_app, List.pairwise_append] at this; exact this.1, fun v hv => h.es v (List.mem_append_left _ hv)⟩
theorem Fine.right {A B : List Vx} (h : Fine (A ++ B)) : Fine B := ⟨by have := h.ids; rw [ids_app, List.pairwise_append] at this; exact this.2.1, fun v hv => h.es v (List.mem_append_right _ hv)⟩
theorem noV_ok (m : Mu) : (noV m).1.length ≤ 1 ∧ ∀ y ∈ (noV m).1, y.id = m.i ∧ y.es = [] := by
  unfold noV
  split
  · exact ⟨by simp, fun y hy => by rw [List.mem_singleton] at hy; subst hy; exact ⟨rfl, rfl⟩⟩
  · exact ⟨by simp, fun y hy => (by cases hy)⟩
/-- How great a graph is at most. -/
def Up (n : Nat) (G : List Vx) : Prop := G.length ≤ n ∧ ∀ v ∈ G, v.es.length ≤ n
/-- How a request's work falls apart. -/
theorem doG_form {G : List Vx} (hf : Fine G) (m : Mu) :
    (∃ A v B, G = A ++ v :: B ∧ v.id = m.i ∧ (∀ a ∈ A, a.id < m.i) ∧ (∀ b ∈ B, m.i < b.id) ∧ doG G m = (A ++ ((doV v m).1 ++ B), (doV v m).2)) ∨
    (∃ A B, G = A ++ B ∧ (∀ a ∈ A, a.id < m.i) ∧ (∀ b ∈ B, m.i < b.id) ∧ doG G m = (A ++ ((noV m).1 ++ B), (noV m).2)) := by
  rcases split_ids hf.ids m.i with ⟨A, v, B, h1, h2, h3, h4, _, _⟩ | ⟨A, B, h1, h3, h4, _, _⟩
  · exact .inl ⟨A, v, B, h1, h2, h3, h4, by rw [h1]; exact doG_there h2 h3 h4⟩
  · exact .inr ⟨A, B, h1, h3, h4, by rw [h1]; exact doG_none h3 h4⟩
theorem doG_fine {G : List Vx} (hf : Fine G) (m : Mu) : Fine (doG G m).1 := by
  rcases doG_form hf m with ⟨A, v, B, h1, h2, h3, h4, e⟩ | ⟨A, B, h1, h3, h4, e⟩
  · rw [e]
    rw [h1] at hf
    have hv := doV_ok (m := m) (hf.es v (by simp))
    exact fine_put h3 h4 hv.1 (fun y hy => ⟨(hv.2 y hy).1.trans h2, (hv.2 y hy).2.1⟩) hf.left (Fine.right (A := [v]) hf.right)
  · rw [e]
    rw [h1] at hf
    exact fine_put h3 h4 (noV_ok m).1 (fun y hy => ⟨((noV_ok m).2 y hy).1, by rw [((noV_ok m).2 y hy).2]; exact List.Pairwise.nil⟩) hf.left hf.right
theorem doG_up {G : List Vx} (hf : Fine G) (m : Mu) {n : Nat} (h : Up n G) : Up (n + 1) (doG G m).1 := by
  rcases doG_form hf m with ⟨A, v, B, h1, h2, h3, h4, e⟩ | ⟨A, B, h1, h3, h4, e⟩
  · rw [e]
    rw [h1] at hf h
    have hv := doV_ok (m := m) (hf.es v (by simp))
    refine ⟨?_, fun y hy => ?_⟩
    · have := h.1
      simp only [List.length_append, List.length_cons] at this ⊢
      omega
    · rcases List.mem_append.1 hy with hy | hy
      · have := h.2 y (by simp [hy]); omega
      · rcases List.mem_append.1 hy with hy | hy
        · have := h.2 v (by simp); have := (hv.2 y hy).2.2; omega
        · have := h.2 y (by simp [hy]); omega
  · rw [e]
    rw [h1] at h
    refine ⟨?_, fun y hy => ?_⟩
    · have := h.1
      have := (noV_ok m).1
      simp only [List.length_append] at *
      omega
    · rcases List.mem_append.1 hy with hy | hy
      · have := h.2 y (by simp [hy]); omega
      · rcases List.mem_append.1 hy with hy | hy
        · rw [((noV_ok m).2 y hy).2]; simp
        · have := h.2 y (by simp [hy]); omega
/-- One request more. -/
def stepU (s : List Vx × Nat) (m : Mu) : List Vx × Nat := ((doG s.1 m).1, s.2 + if (doG s.1 m).2 then 1 else 0)
def runU (s : List Vx × Nat) (l : List Mu) : List Vx × Nat := l.foldl stepU s
/-- The graph behind all requests, and how many changed something. -/
def appG (G : List Vx) (l : List Mu) : List Vx × Nat := runU (G, 0) (thatC l)
theorem runU_snoc (s : List Vx × Nat) (l : List Mu) (m : Mu) : runU s (l ++ [m]) = stepU (runU s l) m := by unfold runU; rw [List.foldl_append]; rfl
theorem runU_fine {s : List Vx × Nat} (h : Fine s.1) : ∀ l, Fine (runU s l).1 := by
  intro l
  induction l generalizing s with
  | nil => exact h
  | cons m l ih => exact ih (s := stepU s m) (doG_fine h m)
theorem runU_up {s : List Vx × Nat} (h : Fine s.1) {n : Nat} (hu : Up n s.1) : ∀ l, Up (n + l.length) (runU s l).1 := by
  intro l
  induction l generalizing s n with
  | nil => exact hu
  | cons m l ih =>
    have := ih (s := stepU s m) (doG_fine h m) (doG_up h m hu)
    rw [List.length_cons, show n + (l.length + 1) = n + 1 + l.length by omega]
    exact this
theorem runU_cnt (s : List Vx × Nat) : ∀ l, (runU s l).2 ≤ s.2 + l.length := by
  intro l
  induction l generalizing s with
  | nil => exact Nat.le_refl _
  | cons m l ih =>
    have := ih (stepU s m)
    have e : (stepU s m).2 ≤ s.2 + 1 := by unfold stepU; simp only; split <;> omega
    rw [List.length_cons]
    show (runU (stepU s m) l).2 ≤ _
    omega
theorem appG_cnt (G : List Vx) (l : List Mu) : (appG G l).2 ≤ l.length := by
  have := runU_cnt (G, 0) (thatC l)
  have := thatC_len l
  unfold appG
  simp only at *
  omega
theorem appG_fine {G : List Vx} (h : Fine G) (l : List Mu) : Fine (appG G l).1 := runU_fine h _
theorem appG_up {G : List Vx} (h : Fine G) {n : Nat} (hu : Up n G) (l : List Mu) : Up (n + l.length) (appG G l).1 := by
  have := runU_up (s := (G, 0)) h hu (thatC l)
  have h2 := thatC_len l
  unfold appG
  exact ⟨by have := this.1; omega, fun v hv => by have := this.2 v hv; omega⟩
end Go.Proofs.Ythnhmhjcpdomcaa
