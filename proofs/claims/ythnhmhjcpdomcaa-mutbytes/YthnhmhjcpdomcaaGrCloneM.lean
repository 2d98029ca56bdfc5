import Derived.Test.YthnhmhjcpdomcaaMuMath
import Derived.Test.YthnhmhjcpdomcaaGrRef
section
/- What a request does to a graph: on plain lists. -/
namespace Go.Proofs.Ythnhmhjcpdomcaa
open Go.RowKit
/-- What a request does to its vertex. -/
def doV (v : Vx) (m : Mu) : List Vx × Bool :=
  if m.k = 2 then ([], true)
  else if m.k = 1 then (if foundB (ends v.es) m.t then ([⟨v.id, v.val, v.es.take (findN (ends v.es) m.t) ++ v.es.drop (findN (ends v.es) m.t + 1)⟩], true) else ([v], false))
  else if m.k = 4 then (if foundB (ends v.es) m.t then ([v], false) else ([⟨v.id, v.val, v.es.take (findN (ends v.es) m.t) ++ ⟨m.t, m.v⟩ :: v.es.drop (findN (ends v.es) m.t)⟩], true))
  else ([v], false)
/-- What a request does where its vertex is not there. -/
def noV (m : Mu) : List Vx × Bool := if m.k = 3 then ([⟨m.i, m.v, []⟩], true) else ([], false)
/-- What a request does to a graph, and whether it changed something. -/
def doG (G : List Vx) (m : Mu) : List Vx × Bool :=
  if foundB (ids G) m.i then
    match G.drop (findN (ids G) m.i) with
    | [] => (G, false)
    | v :: B => (G.take (findN (ids G) m.i) ++ ((doV v m).1 ++ B), (doV v m).2)
  else (G.take (findN (ids G) m.i) ++ ((noV m).1 ++ G.drop (findN (ids G) m.i)), (noV m).2)
/-- Numbers ahead of x, and numbers that are not. -/
theorem findN_app {A B : List Int} {x : Int} (hA : ∀ a ∈ A, a < x) (hB : ∀ b ∈ B, ¬ b < x) : findN (A ++ B) x = A.length := by
  refine findN_eq (by simp) (fun j h hj => ?_) (fun j h hj => ?_)
  · rw [List.getElem_append_left hj]
    exact hA _ (List.getElem_mem _)
  · rw [List.getElem_append_right hj]
    exact hB _ (List.getElem_mem _)
theorem foundB_app {A B : List Int} {x : Int} (hA : ∀ a ∈ A, a < x) (hB : ∀ b ∈ B, ¬ b < x) : foundB (A ++ B) x = (B.head? == some x) := by
  unfold foundB
  rw [findN_app hA hB]
  congr 1
  rw [List.getElem?_append_right (Nat.le_refl _), Nat.sub_self]
  cases B <;> rfl
theorem rise_pw {l : List Int} : Rise l ↔ l.Pairwise (· < ·) := by
  constructor
  · intro h
    rw [List.pairwise_iff_getElem]
    intro i j hi hj hij
    exact h.lt j i hj hij
  · intro h j hj
    exact List.pairwise_iff_getElem.1 h j (j + 1) (by omega) hj (by omega)
/-- A graph whose vertices and edges rise. -/
structure Fine (G : List Vx) : Prop where
  ids : (ids G).Pairwise (· < ·)
  es : ∀ v ∈ G, (ends v.es).Pairwise (· < ·)
theorem ids_app (A B : List Vx) : ids (A ++ B) = ids A ++ ids B := by simp [ids]
theorem ids_cons (v : Vx) (B : List Vx) : ids (v :: B) = v.id :: ids B := rfl
theorem ends_app (A B : List Ed) : ends (A ++ B) = ends A ++ ends B := by simp [ends]
theorem ends_cons (v : Ed) (B : List Ed) : ends (v :: B) = v.t :: ends B := rfl
/-- Of numbers that rise: those below x, those that are not. -/
theorem take_lt (l : List Int) (x : Int) : ∀ a ∈ l.take (findN l x), a < x := by
  intro a ha
  obtain ⟨j, hj, rfl⟩ := List.getElem_of_mem ha
  rw [List.getElem_take]
  obtain ⟨h', h''⟩ := findN_lt l x j (by rw [List.length_take] at hj; omega)
  exact h''
theorem drop_ge {l : List Int} (hr : l.Pairwise (· < ·)) (x : Int) : ∀ b ∈ l.drop (findN l x), x ≤ b := by
  intro b hb
  obtain ⟨j, hj, rfl⟩ := List.getElem_of_mem hb
  rw [List.length_drop] at hj
  rw [List.getElem_drop]
  have h0 := findN_stop l x (by omega)
  by_cases e : j = 0
  · subst e; simp only [Nat.add_zero]; omega
  · have := List.pairwise_iff_getElem.1 hr (findN l x) (findN l x + j) (by omega) (by omega) (by omega)
    omega
theorem ids_take (G : List Vx) (n : Nat) : (ids G).take n = ids (G.take n) := by simp [ids, List.map_take]
theorem ids_drop (G : List Vx) (n : Nat) : (ids G).drop n = ids (G.drop n) := by simp [ids, List.map_drop]
theorem ends_take (G : List Ed) (n : Nat) : (ends G).take n = ends (G.take n) := by simp [ends, List.map_take]
theorem ends_drop (G : List Ed) (n : Nat) : (ends G).drop n = ends (G.drop n) := by simp [ends, List.map_drop]
/-- A vertex is there, or not: how the list falls apart. -/
theorem split_ids {G : List Vx} (hr : (ids G).Pairwise (· < ·)) (x : Int) :
    (∃ A v B, G = A ++ v :: B ∧ v.id = x ∧ (∀ a ∈ A, a.id < x) ∧ (∀ b ∈ B, x < b.id) ∧ findN (ids G) x = A.length ∧ foundB (ids G) x = true) ∨
    (∃ A B, G = A ++ B ∧ (∀ a ∈ A, a.id < x) ∧ (∀ b ∈ B, x < b.id) ∧ findN (ids G) x = A.length ∧ foundB (ids G) x = false) := by
  have hA : ∀ a ∈ G.take (findN (ids G) x), a.id < x := fun a ha => take_lt (ids G) x a.id (by rw [ids_take]; exact List.mem_map_of_mem ha)
  have hB : ∀ b ∈ G.drop (findN (ids G) x), x ≤ b.id := fun b hb => drop_ge hr x b.id (by rw [ids_drop]; exact List.mem_map_of_mem hb)
  have hl : findN (ids G) x = (G.take (findN (ids G) x)).length := by
    have := findN_le (ids G) x
    rw [ids_len] at this
    rw [List.length_take]; omega
  have hG : G = G.take (findN (ids G) x) ++ G.drop (findN (ids G) x) := (List.take_append_drop _ _).symm
  have hf : foundB (ids G) x = ((ids (G.drop (findN (ids G) x))).head? == some x) := by
    conv => lhs; rw [hG, ids_app]
    exact foundB_app (fun a ha => by obtain ⟨v, hv, rfl⟩ := List.mem_map.1 ha; exact hA v hv) (fun b hb => by obtain ⟨v, hv, rfl⟩ := List.mem_map.1 hb; have := hB v hv; omega)
  cases hD : G.drop (findN (ids G) x) with
  | nil =>
    rw [hD] at hf hG
    exact .inr ⟨G.take (findN (ids G) x), [], hG, hA, fun b hb => (by cases hb), hl, by rw [hf]; rfl⟩
  | cons v B =>
    have hv := hB v (by rw [hD]; simp)
    have hr' := hr
    rw [hG, ids_app, List.pairwise_append, hD, ids_cons, List.pairwise_cons] at hr'
    rw [hD] at hf hG
    rw [ids_cons, List.head?_cons] at hf
    have hBB : ∀ b ∈ B, v.id < b.id := fun b hb => hr'.2.1.1 b.id (List.mem_map_of_mem hb)
    by_cases e : v.id = x
    · exact .inl ⟨_, v, B, hG, e, hA, fun b hb => by rw [← e]; exact hBB b hb, hl, by rw [hf, e]; simp⟩
    · refine .inr ⟨_, v :: B, hG, hA, fun b hb => ?_, hl, by rw [hf]; simpa using e⟩
      rcases List.mem_cons.1 hb with rfl | hb
      · omega
      · have := hBB b hb; omega
theorem split_ends {G : List Ed} (hr : (ends G).Pairwise (· < ·)) (x : Int) :
    (∃ A v B, G = A ++ v :: B ∧ v.t = x ∧ (∀ a ∈ A, a.t < x) ∧ (∀ b ∈ B, x < b.t) ∧ findN (ends G) x = A.length ∧ foundB (ends G) x = true) ∨
    (∃ A B, G = A ++ B ∧ (∀ a ∈ A, a.t < x) ∧ (∀ b ∈ B, x < b.t) ∧ findN (ends G) x = A.length ∧ foundB (ends G) x = false) := by
  have hA : ∀ a ∈ G.take (findN (ends G) x), a.t < x := fun a ha => take_lt (ends G) x a.t (by rw [ends_take]; exact List.mem_map_of_mem ha)
  have hB : ∀ b ∈ G.drop (findN (ends G) x), x ≤ b.t := fun b hb => drop_ge hr x b.t (by rw [ends_drop]; exact List.mem_map_of_mem hb)
  have hl : findN (ends G) x = (G.take (findN (ends G) x)).length := by
    have := findN_le (ends G) x
    rw [ends_len] at this
    rw [List.length_take]; omega
  have hG : G = G.take (findN (ends G) x) ++ G.drop (findN (ends G) x) := (List.take_append_drop _ _).symm
  have hf : foundB (ends G) x = ((ends (G.drop (findN (ends G) x))).head? == some x) := by
    conv => lhs; rw [hG, ends_app]
    exact foundB_app (fun a ha => by obtain ⟨v, hv, rfl⟩ := List.mem_map.1 ha; exact hA v hv) (fun b hb => by obtain ⟨v, hv, rfl⟩ := List.mem_map.1 hb; have := hB v hv; omega)
  cases hD : G.drop (findN (ends G) x) with
  | nil =>
    rw [hD] at hf hG
    exact .inr ⟨G.take (findN (ends G) x), [], hG, hA, fun b hb => (by cases hb), hl, by rw [hf]; rfl⟩
  | cons v B =>
    have hv := hB v (by rw [hD]; simp)
    have hr' := hr
    rw [hG, ends_app, List.pairwise_append, hD, ends_cons, List.pairwise_cons] at hr'
    rw [hD] at hf hG
    rw [ends_cons, List.head?_cons] at hf
    have hBB : ∀ b ∈ B, v.t < b.t := fun b hb => hr'.2.1.1 b.t (List.mem_map_of_mem hb)
    by_cases e : v.t = x
    · exact .inl ⟨_, v, B, hG, e, hA, fun b hb => by rw [← e]; exact hBB b hb, hl, by rw [hf, e]; simp⟩
    · refine .inr ⟨_, v :: B, hG, hA, fun b hb => ?_, hl, by rw [hf]; simpa using e⟩
      rcases List.mem_cons.1 hb with rfl | hb
      · omega
      · have := hBB b hb; omega
theorem doG_there {A B : List Vx} {v : Vx} {m : Mu} (hv : v.id = m.i) (hA : ∀ a ∈ A, a.id < m.i) (hB : ∀ b ∈ B, m.i < b.id) : doG (A ++ v :: B) m = (A ++ ((doV v m).1 ++ B), (doV v m).2) := by
  have hA' : ∀ a ∈ ids A, a < m.i := fun a ha => by obtain ⟨y, hy, rfl⟩ := List.mem_map.1 ha; exact hA y hy
  have hB' : ∀ b ∈ ids (v :: B), ¬ b < m.i := fun b hb => by
    rw [ids_cons, List.mem_cons] at hb
    rcases hb with rfl | hb
    · omega
    · obtain ⟨y, hy, rfl⟩ := List.mem_map.1 hb; have := hB y hy; omega
  have e1 : findN (ids (A ++ v :: B)) m.i = A.length := by rw [ids_app, findN_app hA' hB', ids_len]
  have e2 : foundB (ids (A ++ v :: B)) m.i = true := by rw [ids_app, foundB_app hA' hB', ids_cons, List.head?_cons, hv]; simp
  unfold doG
  rw [if_pos e2, e1, List.drop_left, List.take_left]
theorem doG_none {A B : List Vx} {m : Mu} (hA : ∀ a ∈ A, a.id < m.i) (hB : ∀ b ∈ B, m.i < b.id) : doG (A ++ B) m = (A ++ ((noV m).1 ++ B), (noV m).2) := by
  have hA' : ∀ a ∈ ids A, a < m.i := fun a ha => by obtain ⟨y, hy, rfl⟩ := List.mem_map.1 ha; exact hA y hy
  have hB' : ∀ b ∈ ids B, ¬ b < m.i := fun b hb => by
    obtain ⟨y, hy, rfl⟩ := List.mem_map.1 hb; have := hB y hy; omega
  have e1 : findN (ids (A ++ B)) m.i = A.length := by rw [ids_app, findN_app hA' hB', ids_len]
  have e2 : foundB (ids (A ++ B)) m.i = false := by
    rw [ids_app, foundB_app hA' hB']
    cases B with
    | nil => rfl
    | cons y B => have := hB y (by simp); rw [ids_cons, List.head?_cons]; simp; omega
  unfold doG
  rw [if_neg (by rw [e2]; simp), e1, List.drop_left, List.take_left]
/-- What a request makes of its vertex: of the same number, its edges rise. -/
theorem doV_ok {v : Vx} {m : Mu} (h : (ends v.es).Pairwise (· < ·)) : (doV v m).1.length ≤ 1 ∧ ∀ y ∈ (doV v m).1, y.id = v.id ∧ (ends y.es).Pairwise (· < ·) ∧ y.es.length ≤ v.es.length + 1 := by
  unfold doV
  split
  · exact ⟨by simp, fun y hy => (by cases hy)⟩
  · split
    · split
      · refine ⟨by simp, fun y hy => ?_⟩
        rw [List.mem_singleton] at hy
        subst hy
        refine ⟨rfl, ?_, by simp only [List.length_append, List.length_take, List.length_drop]; omega⟩
        simp only
        rw [ends_app, ← ends_take, ← ends_drop]
        refine h.sublist ?_
        conv => rhs; rw [← List.take_append_drop (findN (ends v.es) m.t) (ends v.es)]
        refine List.Sublist.append (List.Sublist.refl _) ?_
        rw [← List.drop_drop]
        exact List.drop_sublist _ _
      · exact ⟨by simp, fun y hy => by rw [List.mem_singleton] at hy; subst hy; exact ⟨rfl, h, by omega⟩⟩
    · split
      · split
        · exact ⟨by simp, fun y hy => by rw [List.mem_singleton] at hy; subst hy; exact ⟨rfl, h, by omega⟩⟩
        · rename_i hn
          refine ⟨by simp, fun y hy => ?_⟩
          rw [List.mem_singleton] at hy
          subst hy
          refine ⟨rfl, ?_, by simp only [List.length_append, List.length_take, List.length_cons, List.length_drop]; omega⟩
          rcases split_ends h m.t with ⟨A, y, B, h1, h2, h3, h4, h5, h6⟩ | ⟨A, B, h1, h3, h4, h5, h6⟩
          · rw [h6] at hn; simp at hn
          · simp only
            rw [h5, h1, List.take_left, List.drop_left, ends_app, ends_cons]
            rw [h1, ends_app, List.pairwise_append] at h
            rw [List.pairwise_append, List.pairwise_cons]
            refine ⟨h.1, ⟨fun b hb => ?_, h.2.1⟩, fun a ha b hb => ?_⟩
            · obtain ⟨y, hy, rfl⟩ := List.mem_map.1 hb; exact h4 y hy
            · rcases List.mem_cons.1 hb with rfl | hb
              · obtain ⟨y, hy, rfl⟩ := List.mem_map.1 ha; exact h3 y hy
              · exact h.2.2 a ha b hb
      · exact ⟨by simp, fun y hy => by rw [List.mem_singleton] at hy; subst hy; exact ⟨rfl, h, by omega⟩⟩
/-- What stands in a vertex's place. -/
theorem fine_put {A B C : List Vx} {x : Int} (hA : ∀ a ∈ A, a.id < x) (hB : ∀ b ∈ B, x < b.id) (hC1 : C.length ≤ 1) (hC : ∀ y ∈ C, y.id = x ∧ (ends y.es).Pairwise (· < ·)) (hA1 : Fine A) (hB1 : Fine B) : Fine (A ++ (C ++ B)) := by
  refine ⟨?_, fun v hv => ?_⟩
  · rw [ids_app, ids_app, List.pairwise_append, List.pairwise_append]
    refine ⟨hA1.ids, ⟨?_, hB1.ids, fun a ha b hb => ?_⟩, fun a ha b hb => ?_⟩
    · match C, hC1 with
      | [], _ => exact List.Pairwise.nil
      | [y], _ => exact List.pairwise_singleton _ _
    · obtain ⟨y, hy, rfl⟩ := List.mem_map.1 ha
      obtain ⟨z, hz, rfl⟩ := List.mem_map.1 hb
      rw [(hC y hy).1]
      exact hB z hz
    · obtain ⟨y, hy, rfl⟩ := List.mem_map.1 ha
      have := hA y hy
      rcases List.mem_append.1 hb with hb | hb
      · obtain ⟨z, hz, rfl⟩ := List.mem_map.1 hb
        rw [(hC z hz).1]; exact this
      · obtain ⟨z, hz, rfl⟩ := List.mem_map.1 hb
        have := hB z hz; omega
  · rcases List.mem_append.1 hv with h | h
    · exact hA1.es v h
    · rcases List.mem_append.1 h with h | h
      · exact (hC v h).2
      · exact hB1.es v h
theorem Fine.left {A B : List Vx} (h : Fine (A ++ B)) : Fine A := ⟨by have := h.ids; rw [ids_app, List.pairwise_append] at this; exact this.1, fun v hv => h.es v (List.mem_append_left _ hv)⟩
theorem Fine.right {A B : List Vx} (h : Fine (A ++ B)) : Fine B := ⟨by have := h.ids; rw [ids_app, List.pairwise_append] at this; exact this.2.1, fun v hv => h.es v (List.mem_append_right _ hv)⟩
theorem noV_ok (m : Mu) : (noV m).1.length ≤ 1 ∧ ∀ y ∈ (noV m).1, y.id = m.i ∧ y.es = [] := by
  unfold noV
  split
  · exact ⟨by simp, fun y hy => by rw [List.mem_singleton] at hy; subst hy; exact ⟨rfl, rfl⟩⟩
  · exact ⟨by simp, fun y hy => (by cases hy)⟩
/-- How great a graph is at most. -/
def Up (n : Nat) (G : List Vx) : Prop := G.length ≤ n ∧ ∀ v ∈ G, v.es.length ≤ n
/-- How a request's work falls apart. -/
theorem doG_form {G : List Vx} (hf : Fine G) (m : Mu) :
    (∃ A v B, G = A ++ v :: B ∧ v.id = m.i ∧ (∀ a ∈ A, a.id < m.i) ∧ (∀ b ∈ B, m.i < b.id) ∧ doG G m = (A ++ ((doV v m).1 ++ B), (doV v m).2)) ∨
    (∃ A B, G = A ++ B ∧ (∀ a ∈ A, a.id < m.i) ∧ (∀ b ∈ B, m.i < b.id) ∧ doG G m = (A ++ ((noV m).1 ++ B), (noV m).2)) := by
  rcases split_ids hf.ids m.i with ⟨A, v, B, h1, h2, h3, h4, _, _⟩ | ⟨A, B, h1, h3, h4, _, _⟩
  · exact .inl ⟨A, v, B, h1, h2, h3, h4, by rw [h1]; exact doG_there h2 h3 h4⟩
  · exact .inr ⟨A, B, h1, h3, h4, by rw [h1]; exact doG_none h3 h4⟩
theorem doG_fine {G : List Vx} (hf : Fine G) (m : Mu) : Fine (doG G m).1 := by
  rcases doG_form hf m with ⟨A, v, B, h1, h2, h3, h4, e⟩ | ⟨A, B, h1, h3, h4, e⟩
  · rw [e]
    rw [h1] at hf
    have hv := doV_ok (m := m) (hf.es v (by simp))
    exact fine_put h3 h4 hv.1 (fun y hy => ⟨(hv.2 y hy).1.trans h2, (hv.2 y hy).2.1⟩) hf.left (Fine.right (A := [v]) hf.right)
  · rw [e]
    rw [h1] at hf
    exact fine_put h3 h4 (noV_ok m).1 (fun y hy => ⟨((noV_ok m).2 y hy).1, by rw [((noV_ok m).2 y hy).2]; exact List.Pairwise.nil⟩) hf.left hf.right
theorem doG_up {G : List Vx} (hf : Fine G) (m : Mu) {n : Nat} (h : Up n G) : Up (n + 1) (doG G m).1 := by
  rcases doG_form hf m with ⟨A, v, B, h1, h2, h3, h4, e⟩ | ⟨A, B, h1, h3, h4, e⟩
  · rw [e]
    rw [h1] at hf h
    have hv := doV_ok (m := m) (hf.es v (by simp))
    refine ⟨?_, fun y hy => ?_⟩
    · have := h.1
      simp only [List.length_append, List.length_cons] at this ⊢
      omega
    · rcases List.mem_append.1 hy with hy | hy
      · have := h.2 y (by simp [hy]); omega
      · rcases List.mem_append.1 hy with hy | hy
        · have := h.2 v (by simp); have := (hv.2 y hy).2.2; omega
        · have := h.2 y (by simp [hy]); omega
  · rw [e]
    rw [h1] at h
    refine ⟨?_, fun y hy => ?_⟩
    · have := h.1
      have := (noV_ok m).1
      simp only [List.length_append] at *
      omega
    · rcases List.mem_append.1 hy with hy | hy
      · have := h.2 y (by simp [hy]); omega
      · rcases List.mem_append.1 hy with hy | hy
        · rw [((noV_ok m).2 y hy).2]; simp
        · have := h.2 y (by simp [hy]); omega
/-- One request more. -/
def stepU (s : List Vx × Nat) (m : Mu) : List Vx × Nat := ((doG s.1 m).1, s.2 + if (doG s.1 m).2 then 1 else 0)
def runU (s : List Vx × Nat) (l : List Mu) : List Vx × Nat := l.foldl stepU s
/-- The graph behind all requests, and how many changed something. -/
def appG (G : List Vx) (l : List Mu) : List Vx × Nat := runU (G, 0) (thatC l)
theorem runU_snoc (s : List Vx × Nat) (l : List Mu) (m : Mu) : runU s (l ++ [m]) = stepU (runU s l) m := by unfold runU; rw [List.foldl_append]; rfl
theorem runU_fine {s : List Vx × Nat} (h : Fine s.1) : ∀ l, Fine (runU s l).1 := by
  intro l
  induction l generalizing s with
  | nil => exact h
  | cons m l ih => exact ih (s := stepU s m) (doG_fine h m)
theorem runU_up {s : List Vx × Nat} (h : Fine s.1) {n : Nat} (hu : Up n s.1) : ∀ l, Up (n + l.length) (runU s l).1 := by
  intro l
  induction l generalizing s n with
  | nil => exact hu
  | cons m l ih =>
    have := ih (s := stepU s m) (doG_fine h m) (doG_up h m hu)
    rw [List.length_cons, show n + (l.length + 1) = n + 1 + l.length by omega]
    exact this
theorem runU_cnt (s : List Vx × Nat) : ∀ l, (runU s l).2 ≤ s.2 + l.length := by
  intro l
  induction l generalizing s with
  | nil => exact Nat.le_refl _
  | cons m l ih =>
    have := ih (stepU s m)
    have e : (stepU s m).2 ≤ s.2 + 1 := by unfold stepU; simp only; split <;> omega
    rw [List.length_cons]
    show (runU (stepU s m) l).2 ≤ _
    omega
theorem appG_cnt (G : List Vx) (l : List Mu) : (appG G l).2 ≤ l.length := by
  have := runU_cnt (G, 0) (thatC l)
  have := thatC_len l
  unfold appG
  simp only at *
  omega
theorem appG_fine {G : List Vx} (h : Fine G) (l : List Mu) : Fine (appG G l).1 := runU_fine h _
theorem appG_up {G : List Vx} (h : Fine G) {n : Nat} (hu : Up n G) (l : List Mu) : Up (n + l.length) (appG G l).1 := by
  have := runU_up (s := (G, 0)) h hu (thatC l)
  have h2 := thatC_len l
  unfold appG
  exact ⟨by have := this.1; omega, fun v hv => by have := this.2 v hv; omega⟩
end Go.Proofs.Ythnhmhjcpdomcaa
end

section
/- graph.Part, the document's Part, and copies: slices.Clone of edges, cloneVertex, graph.Clone. -/
namespace Go.Proofs.Ythnhmhjcpdomcaa
open Go.RowKit
/-- The partition of a vertex, of so many. -/
def partN (id parts : Int) : Int := if parts < 1 then 0 else if id.tmod parts < 0 then id.tmod parts + parts else id.tmod parts
theorem tmod_bd (a b : Int) (h : 0 < b) : -b < a.tmod b ∧ a.tmod b < b := by
  have h1 := Int.tmod_lt_of_pos a h
  have h2 := Int.tmod_lt_of_pos (-a) h
  rw [Int.neg_tmod] at h2
  omega
theorem part_any (id parts : Int) (w : World) (hp : I64 parts) :
    Calls Try.prog 80 #[.int .i64 id, .int .i64 parts] w fun r w' => r = .returned (.int .i64 (partN id parts)) ∧ w' = w := by
  unfold I64 at hp
  by_cases h1 : parts < 1
  · have e : partN id parts = 0 := if_pos h1
    go_enter Try.func80, Try.ntmps80
    go_wp2
    go_ret
    exact ⟨by first | rfl | (rw [e]; rfl), rfl⟩
  · have hb := tmod_bd id parts (by omega)
    obtain ⟨t, ht⟩ : ∃ t, id.tmod parts = t := ⟨_, rfl⟩
    rw [ht] at hb
    by_cases h2 : t < 0
    · have e : partN id parts = t + parts := by unfold partN; rw [if_neg h1, ht, if_pos h2]
      go_enter Try.func80, Try.ntmps80
      go_wp2
      all_goals first | (exfalso; omega) | (go_ret; exact ⟨by first | rfl | (rw [e]; rfl), rfl⟩)
    · have e : partN id parts = t := by unfold partN; rw [if_neg h1, ht, if_neg h2]
      go_enter Try.func80, Try.ntmps80
      go_wp2
      all_goals first | (exfalso; omega) | (go_ret; exact ⟨by first | rfl | (rw [e]; rfl), rfl⟩)
theorem refpart_any (id parts : Int) (w : World) (hp : I64 parts) :
    Calls Try.prog 23 #[.int .i64 id, .int .i64 parts] w fun r w' => r = .returned (.int .i64 (partN id parts)) ∧ w' = w := by
  unfold I64 at hp
  by_cases h1 : parts < 1
  · have e : partN id parts = 0 := if_pos h1
    go_enter Try.func23, Try.ntmps23
    go_wp2
    go_ret
    exact ⟨by first | rfl | (rw [e]; rfl), rfl⟩
  · have hb := tmod_bd id parts (by omega)
    obtain ⟨t, ht⟩ : ∃ t, id.tmod parts = t := ⟨_, rfl⟩
    rw [ht] at hb
    by_cases h2 : t < 0
    · have e : partN id parts = t + parts := by unfold partN; rw [if_neg h1, ht, if_pos h2]
      go_enter Try.func23, Try.ntmps23
      go_wp2
      all_goals first | (exfalso; omega) | (go_ret; exact ⟨by first | rfl | (rw [e]; rfl), rfl⟩)
    · have e : partN id parts = t := by unfold partN; rw [if_neg h1, ht, if_neg h2]
      go_enter Try.func23, Try.ntmps23
      go_wp2
      all_goals first | (exfalso; omega) | (go_ret; exact ⟨by first | rfl | (rw [e]; rfl), rfl⟩)
/-- A block of plain cells, none of them frozen. -/
def Soft (w : World) (k : Nat) : Prop := ∃ cs t, w.heap[k]? = some (.cells cs t (0, 0))
theorem Soft.keep {w w' : World} {k : Nat} {S : Nat → Prop} (h : Soft w k) (f : Fr w w' S) (hn : ¬ S k) : Soft w' k := by
  obtain ⟨cs, t, h⟩ := h
  exact ⟨cs, t, (f.block k (lt_of_block h) hn).trans h⟩
theorem Soft.new {w w' : World} {k : Nat} (h : Soft w k) (hb : Below w.heap.size w w') : Soft w' k := by
  obtain ⟨cs, t, h⟩ := h
  exact ⟨cs, t, (hb.block k (lt_of_block h)).trans h⟩
theorem soft_own {w : World} {base : Nat} {e : TypeId} {size : Nat} {v : Value} {n k : Nat} {xs : List Value} (h : w.ownsRow base e size v n xs) (hk : v.ownBlock = some k) : Soft w k := by
  rcases h.2 with ⟨h1, _⟩ | ⟨g, cap, cur, h1, _, hg, _⟩
  · rw [h1] at hk; cases hk
  · rw [h1] at hk
    cases hk
    exact ⟨cur, e, hg⟩
theorem ecs_len (L : List Ed) : (ecs L).length = L.length * 2 := by
  induction L with
  | nil => rfl
  | cons y L ih => simp only [ecs, List.flatMap_cons, List.length_append, List.length_cons] at *; simp at *; omega
theorem ecs_one (L : List Ed) : ∀ u ∈ ecs L, u.oneCell' = true := by
  intro u hu
  unfold ecs at hu
  obtain ⟨y, _, hy⟩ := List.mem_flatMap.1 hu
  simp at hy
  rcases hy with rfl | rfl <;> rfl
theorem ecs_cell {w : World} {P : Nat → Prop} {ad : Addr} {L : List Ed} (h : EdAt w P (some ad) L) : ∀ j u, (ecs L)[j]? = some u → w.cell? (ad.add j) = some u := by
  intro j u hu
  have hj : j < (ecs L).length := (List.getElem?_eq_some_iff.1 hu).1
  rw [ecs_len] at hj
  obtain ⟨b, off, e, _, hc⟩ := h (by omega)
  cases e
  have hadd : (⟨b, off, none⟩ : Addr).add j = ⟨b, off + j, none⟩ := by unfold Addr.add; split <;> simp_all
  rw [hadd]
  have hi : j / 2 < L.length := by omega
  have h1 := ecs_at L (j / 2) hi
  have h2 := hc (j / 2) hi
  rcases Nat.mod_two_eq_zero_or_one j with h0 | h0
  · rw [show j / 2 * 2 = j by omega] at h1 h2
    rw [h1.1] at hu
    cases hu
    exact h2.1
  · rw [show j / 2 * 2 + 1 = j by omega] at h1
    rw [show off + j / 2 * 2 + 1 = off + j by omega] at h2
    rw [h1.2] at hu
    cases hu
    exact h2.2
theorem nil_eq (w : World) (n c : Nat) : (binOp .eql 82 (.slice none n c) (.slice none 0 0)).run Try.prog w = .ok (.bool true) w := by
  have h : (Op.equalIn 10000 82 (.slice none n c) (.slice none 0 0)).run Try.prog w = .ok true w := by
    unfold Op.equalIn
    simp [run_underlying Try.underlying82]
  simp only [binOp]
  simp [Op.equal, Op.maxDepth, h]
theorem nil_ne (w : World) (ad : Addr) (n c : Nat) : (binOp .eql 82 (.slice (some ad) n c) (.slice none 0 0)).run Try.prog w = .ok (.bool false) w := by
  have h : (Op.equalIn 10000 82 (.slice (some ad) n c) (.slice none 0 0)).run Try.prog w = .ok false w := by
    unfold Op.equalIn
    simp [run_underlying Try.underlying82]
  simp only [binOp]
  simp [Op.equal, Op.maxDepth, h]
set_option maxRecDepth 100000 in
theorem clones_any {w : World} {P : Nat → Prop} {ao : Option Addr} (L : List Ed) (cap : Nat) (h : EdAt w P ao L) (hl : L.length ≤ 8796093022208) :
    Calls Try.prog 94 #[.slice ao L.length cap] w fun r w' => ∃ bo c, r = .returned (.slice bo L.length c) ∧ EdAt w' (fun k => w.heap.size ≤ k ∧ Soft w' k) bo L ∧ Below w.heap.size w w' := by
  obtain ⟨i0, hi, hz0, hz1, hz2⟩ := info_parts infoEdge
  cases ao with
  | none =>
    have hL : L = [] := List.eq_nil_of_length_eq_zero (Nat.eq_zero_of_not_pos (fun hp => by obtain ⟨b, off, e, _⟩ := h hp; cases e))
    subst hL
    have hq := nil_eq
    go_enter Try.func94, Try.ntmps94
    go_wp2
    go_ret
    exact ⟨none, 0, rfl, fun hp => absurd hp (by simp), Below.refl _ _⟩
  | some ad =>
    have HN : Hid (∀ j u, (ecs L)[j]? = some u → (w.alloc (.cells #[] 81)).cell? (ad.add j) = some u) := ecs_cell (h.new (one_new _ _))
    have HO : Hid _ := own_empty (w := w) (base := w.heap.size) (t := 81) (size := 2) (Nat.le_refl _)
    clear h
    have hq := nil_ne
    go_enter Try.func94, Try.ntmps94
    go_wp2_with (at_builtin; refine wpList_append_own_at _ rfl _ _ 82 rfl w.heap.size 81 i0 (.agg #[.int .i64 0, .int .i64 0]) 2 16 Try.underlying82 hi hz0 hz1 hz2 rfl (by decide) _ _ _ rfl HO.out ad L.length cap (ecs L) rfl (ecs_len L) HN.out (ecs_one L) (by unfold maxLen; omega) (by omega) (by simp) ?_)
    intro v' w1 hown hgrow _ _
    obtain ⟨bo, m, c, rfl⟩ := own_any hown
    obtain ⟨hm, hE⟩ := own_eds hown
    subst hm
    have hb : Below w.heap.size w w1 := (one_new w _).trans ((Fr.grown (S := fun k => k = w.heap.size) hgrow (fun k hk => by cases hk; rfl)).below (by simp) (fun k hk => by omega))
    go_wp2
    go_ret
    exact ⟨bo, c, rfl, hE.mono (fun k _ hk => ⟨hk.1, soft_own hown hk.2⟩), hb⟩
theorem cl_set3 {w : World} {b : Nat} {t : TypeId} {u0 u1 u2 : Value} (h : w.heap[b]? = some (.cells #[u0, u1, u2] t (0, 0))) (x y z : Value) : (((w.setCell ⟨b, 0, none⟩ x).setCell ⟨b, 1, none⟩ y).setCell ⟨b, 2, none⟩ z).heap[b]? = some (.cells #[x, y, z] t (0, 0)) := by
  have hs : ∀ {w : World} {i : Nat} {cs : Array Value} (v : Value), w.heap[b]? = some (.cells cs t (0, 0)) → (w.setCell ⟨b, i, none⟩ v).heap[b]? = some (.cells (cs.setIfInBounds i v) t (0, 0)) := by
    intro w i cs v h
    have hlt := lt_of_block h
    have h' : w.heap[b] = .cells cs t (0, 0) := by simpa [Array.getElem?_eq_getElem hlt] using h
    show (w.heap.modify b _)[b]? = _
    rw [Array.getElem?_eq_getElem (by simpa using hlt), Array.getElem_modify_self, h']
    rfl
  exact hs z (hs y (hs x h))
theorem sizeVx : (Try.prog.info? 84).map (·.size) = some 3 := by kernel_rfl
set_option maxRecDepth 100000 in
theorem clonev_any {w : World} {P : Nat → Prop} {eo : Option Addr} (x : Vx) (ec : Nat) (h : EdAt w P eo x.es) (hl : x.es.length ≤ 8796093022208) :
    Calls Try.prog 66 #[.agg #[.int .i64 x.id, .int .i64 x.val, .slice eo x.es.length ec]] w fun r w' => ∃ bo c, r = .returned (.agg #[.int .i64 x.id, .int .i64 x.val, .slice bo x.es.length c]) ∧ EdAt w' (fun k => w.heap.size ≤ k ∧ Soft w' k) bo x.es ∧ Below w.heap.size w w' := by
  have HE : Hid (∀ W, Below w.heap.size w W → EdAt W P eo x.es) := fun W hb => h.new hb
  have HB : Hid (Below w.heap.size w ((w.alloc (.cells #[.int .i64 x.id, .int .i64 x.val, .slice eo x.es.length ec] 84)).alloc (.cells #[.int .i64 0, .int .i64 0, .slice none 0 0] 84))) := b2 _ _ _
  have X1 : Hid (((w.alloc (.cells #[.int .i64 x.id, .int .i64 x.val, .slice eo x.es.length ec] 84)).alloc (.cells #[.int .i64 0, .int .i64 0, .slice none 0 0] 84)).heap[w.heap.size]? = some (.cells #[.int .i64 x.id, .int .i64 x.val, .slice eo x.es.length ec] 84 (0, 0))) := (Below.heap_alloc _ _ _ (by simp)).trans (heap_alloc_new _ _)
  have X2 : Hid (((w.alloc (.cells #[.int .i64 x.id, .int .i64 x.val, .slice eo x.es.length ec] 84)).alloc (.cells #[.int .i64 0, .int .i64 0, .slice none 0 0] 84)).heap[w.heap.size + 1]? = some (.cells #[.int .i64 0, .int .i64 0, .slice none 0 0] 84 (0, 0))) := by
    have := heap_alloc_new (w.alloc (.cells #[.int .i64 x.id, .int .i64 x.val, .slice eo x.es.length ec] 84)) (.cells #[.int .i64 0, .int .i64 0, .slice none 0 0] 84)
    rw [World.size_alloc] at this
    exact this
  clear h
  go_enter Try.func66, Try.ntmps66
  go_wp2_with (go_at_call 94; refine (clones_any x.es ec (HE.out _ HB.out) hl).mono ?_; rintro r w1 ⟨bo, c, rfl, hE1, hb1⟩; have y1 := (hb1.block _ (lt_of_block X1.out)).trans X1.out; have y2 := (hb1.block _ (lt_of_block X2.out)).trans X2.out; obtain ⟨p0, p1, p2⟩ := box3 y1; have p3 := froz (o := 2) y1; obtain ⟨q0, q1, q2⟩ := box3 y2; have q3 := froz (o := 0) y2; have q4 := froz (o := 1) y2; have q5 := froz (o := 2) y2; have Y1 : Hid _ := y1; have Y2 : Hid _ := y2; clear y1 y2)
  have hB1 : Below w.heap.size w w1 := HB.out.trans (hb1.mono HB.out.size)
  generalize hW : World.setCell _ _ _ = W
  have f1 : Fr w1 W (fun k => k = w.heap.size ∨ k = w.heap.size + 1) := by
    rw [← hW]
    have hs1 : ∀ (w' : World) (o : Nat) (u : Value), Fr w' (w'.setCell ⟨w.heap.size, o, none⟩ u) (fun k => k = w.heap.size ∨ k = w.heap.size + 1) := fun w' o u => Fr.setCell (S := fun k => k = w.heap.size ∨ k = w.heap.size + 1) w' ⟨w.heap.size, o, none⟩ u (Or.inl rfl)
    have hs2 : ∀ (w' : World) (o : Nat) (u : Value), Fr w' (w'.setCell ⟨w.heap.size + 1, o, none⟩ u) (fun k => k = w.heap.size ∨ k = w.heap.size + 1) := fun w' o u => Fr.setCell (S := fun k => k = w.heap.size ∨ k = w.heap.size + 1) w' ⟨w.heap.size + 1, o, none⟩ u (Or.inr rfl)
    exact (((hs1 _ _ _).trans (hs2 _ _ _) (fun _ _ h => h)).trans (hs2 _ _ _) (fun _ _ h => h)).trans (hs2 _ _ _) (fun _ _ h => h)
  have b1 : W.heap[w.heap.size + 1]? = some (.cells #[.int .i64 x.id, .int .i64 x.val, .slice bo x.es.length c] 84 (0, 0)) := by
    rw [← hW]
    have h0 : (w1.setCell ⟨w.heap.size, 2, none⟩ (.slice bo x.es.length c)).heap[w.heap.size + 1]? = some (.cells #[.int .i64 0, .int .i64 0, .slice none 0 0] 84 (0, 0)) := (Below.heap_setCell w1 ⟨w.heap.size, 2, none⟩ _ (w.heap.size + 1) (by show w.heap.size + 1 ≠ w.heap.size; omega)).trans Y2.out
    exact cl_set3 h0 _ _ _
  refine bodyPost_ret (v := .agg #[.int .i64 x.id, .int .i64 x.val, .slice bo x.es.length c]) (results_cell_row Try.results66 _ _ (w.heap.size + 1) 84 _ (0, 0) _ rfl b1 Try.underlying84 rfl sizeVx) rfl ?_
  have hz1 := lt_of_block X2.out
  exact ⟨bo, c, rfl, hE1.kept f1 (fun k hk hp => ⟨by have := hp.1; omega, by have := HB.out.size; have := hp.1; omega, hp.2.keep f1 (by have := hp.1; omega)⟩), hB1.trans (f1.below hB1.size (fun k hk => by omega))⟩
end Go.Proofs.Ythnhmhjcpdomcaa
end
