import Derived.Test.YtidghoipmggklaaGreatMaMapM
import Derived.Test.YtidghoipmggklaaGreatMaLayM
import Derived.Test.YtidghoipmggklaaGreatPlF2M
import Derived.Shelf.AbstractIn
import Derived.Laws.IdiomRangeMap
/- A master in memory; masters that have no job: workers come and go. -/
namespace Go.Proofs.YtidghoipmggklaaGreat
open Go.RowKit Go.Maps Go.Sort Go.Shelf
attribute [local go_sem] Oper.semAt_some
theorem ma_new (w : World) (o : Obj) : Below w.heap.size w (w.alloc o) := (Below.refl _ _).alloc (Nat.le_refl _) _
theorem ma_lt {w : World} {g : Nat} {o : Obj} (h : w.heap[g]? = some o) : g < w.heap.size := (Array.getElem?_eq_some_iff.1 h).1
theorem ma_set {w : World} {g i : Nat} {cs : Array Value} {t : TypeId} (v : Value) (h : w.heap[g]? = some (.cells cs t (0, 0))) : (w.setCell ⟨g, i, none⟩ v).heap[g]? = some (.cells (cs.setIfInBounds i v) t (0, 0)) := gblk_set v h
/-- One is put in the place of those with its key. -/
def insP (M : List Pz) (y : Pz) : List Pz := M.filter (fun z => z.k != y.k) ++ [y]
def delP (M : List Pz) (x : Int) : List Pz := M.filter (fun z => z.k != x)
theorem delP_get (M : List Pz) (x z : Int) : getP (delP M x) z = if z = x then none else getP M z := by
  induction M with
  | nil => simp [delP, getP]
  | cons y M ih =>
    unfold delP getP at ih ⊢
    by_cases h1 : y.k = x
    · have e1 : (y.k != x) = false := by simpa using h1
      rw [List.filter_cons_of_neg (by simp [e1])]
      rw [ih]
      by_cases h2 : z = x
      · rw [if_pos h2, if_pos h2]
      · rw [if_neg h2, if_neg h2, List.find?_cons_of_neg (by simp; omega)]
    · have e1 : (y.k != x) = true := by simpa using h1
      rw [List.filter_cons_of_pos (by simp [e1])]
      by_cases h3 : y.k = z
      · rw [List.find?_cons_of_pos (by simpa using h3), List.find?_cons_of_pos (by simpa using h3), if_neg (by omega)]
      · rw [List.find?_cons_of_neg (by simpa using h3), List.find?_cons_of_neg (by simpa using h3)]
        exact ih
theorem delP_mem {M : List Pz} {x : Int} {z : Pz} (h : z ∈ delP M x) : z ∈ M ∧ z.k ≠ x := by
  unfold delP at h
  rw [List.mem_filter] at h
  exact ⟨h.1, by simpa using h.2⟩
theorem delP_nod {M : List Pz} {x : Int} (h : (M.map (·.k)).Nodup) : ((delP M x).map (·.k)).Nodup := by
  unfold delP
  exact h.sublist ((List.filter_sublist).map _)
theorem insP_get (M : List Pz) (y : Pz) (z : Int) : getP (insP M y) z = if z = y.k then some y else getP M z := by
  have h : ∀ u ∈ delP M y.k, u.k ≠ y.k := fun u hu => (delP_mem hu).2
  show getP (delP M y.k ++ [y]) z = _
  rw [getP_snoc h, delP_get]
  by_cases e : z = y.k
  · rw [if_pos e, if_pos e]
  · rw [if_neg e, if_neg e, if_neg e]
theorem insP_nod {M : List Pz} {y : Pz} (h : (M.map (·.k)).Nodup) : ((insP M y).map (·.k)).Nodup := by
  show ((delP M y.k ++ [y]).map (·.k)).Nodup
  rw [List.map_append, List.nodup_append]
  refine ⟨delP_nod h, by simp, ?_⟩
  intro a ha b hb
  obtain ⟨u, hu, rfl⟩ := List.mem_map.1 ha
  simp at hb
  rw [hb]
  exact (delP_mem hu).2
theorem insP_mem {M : List Pz} {y z : Pz} (h : z ∈ insP M y) : z ∈ M ∨ z = y := by
  rcases List.mem_append.1 h with h | h
  · exact .inl (delP_mem (x := y.k) h).1
  · exact .inr (by simpa using h)
theorem del_ins (M : List Pz) (y : Pz) : insP (delP M y.k) y = insP M y := by
  unfold insP delP
  rw [List.filter_filter]
  simp
/-- Workers in memory: a map, or none. -/
def WkAt (w : World) (mb : Option Nat) (M : List Pz) : Prop := match mb with
  | none => M = []
  | some b => WMap w b M
theorem WkAt.kept {w w' : World} {mb : Option Nat} {M : List Pz} {S : Nat → Prop} (h : WkAt w mb M) (f : Fr w w' S) (hs : ∀ b, mb = some b → ¬ S b) : WkAt w' mb M := by
  cases mb with
  | none => exact h
  | some b => exact WMap.kept h f (hs b rfl)
theorem WkAt.new {w w' : World} {mb : Option Nat} {M : List Pz} (h : WkAt w mb M) (hb : Below w.heap.size w w') : WkAt w' mb M := h.kept (Fr.ofBelow hb (fun _ => False)) (fun _ _ h => h)
theorem WkAt.nod {w : World} {mb : Option Nat} {M : List Pz} (h : WkAt w mb M) : (M.map (·.k)).Nodup := by
  cases mb with
  | none => rw [show M = [] from h]; exact List.nodup_nil
  | some b => exact WMap.nod h
theorem WkAt.oks {w : World} {mb : Option Nat} {M : List Pz} (h : WkAt w mb M) : ∀ y ∈ M, y.ok := by
  cases mb with
  | none => rw [show M = [] from h]; exact fun _ h => absurd h (by simp)
  | some b => exact WMap.oks h
theorem WkAt.lt {w : World} {b : Nat} {M : List Pz} (h : WkAt w (some b) M) : b < w.heap.size := WMap.lt h
/-- A master: its table of sessions, its workers, its jobs, its epoch, its course. -/
structure MaBox (w : World) (p : Nat) (ax : Value) (mb : Option Nat) (js : Value) (ep : Int) (cr : Value) (M : List Pz) : Prop where
  box : w.heap[p]? = some (.cells #[ax, .map mb, js, .int .i64 ep, cr] 160 (0, 0))
  wk : WkAt w mb M
  ne : ∀ b, mb = some b → b ≠ p
section
variable {w w' : World} {p : Nat} {ax js cr : Value} {mb : Option Nat} {ep : Int} {M : List Pz}
theorem MaBox.lt (h : MaBox w p ax mb js ep cr M) : p < w.heap.size := ma_lt h.box
theorem MaBox.c (h : MaBox w p ax mb js ep cr M) : w.cell? ⟨p, 0, none⟩ = some ax ∧ w.cell? ⟨p, 1, none⟩ = some (.map mb) ∧ w.cell? ⟨p, 2, none⟩ = some js ∧ w.cell? ⟨p, 3, none⟩ = some (.int .i64 ep) ∧ w.cell? ⟨p, 4, none⟩ = some cr := by
  have := h.box
  refine ⟨?_, ?_, ?_, ?_, ?_⟩ <;> simp [World.cell?, this]
theorem MaBox.f (h : MaBox w p ax mb js ep cr M) (i : Nat) : w.frozen? ⟨p, i, none⟩ = false := by simp [World.frozen?, h.box]
theorem MaBox.kept (h : MaBox w p ax mb js ep cr M) {S : Nat → Prop} (f : Fr w w' S) (hp : ¬ S p) (hs : ∀ b, mb = some b → ¬ S b) : MaBox w' p ax mb js ep cr M := ⟨(f.block p h.lt hp).trans h.box, h.wk.kept f hs, h.ne⟩
theorem MaBox.new (h : MaBox w p ax mb js ep cr M) (hb : Below w.heap.size w w') : MaBox w' p ax mb js ep cr M := h.kept (Fr.ofBelow hb (fun _ => False)) (fun h => h) (fun _ _ h => h)
end
/-- What may change: the master's box, its workers. -/
def MaB (p : Nat) (mb : Option Nat) (k : Nat) : Prop := k = p ∨ mb = some k
theorem ma_fresh {w : World} {ax js cr : Value} {ep : Int} : MaBox (w.alloc (.cells #[ax, .map none, js, .int .i64 ep, cr] 160)) w.heap.size ax none js ep cr [] := ⟨heap_alloc_new _ _, rfl, fun _ h => (by cases h)⟩
theorem mnew (w : World) : Calls Tryz.prog 34 #[] w fun r w' => r = .returned (.pointer (some ⟨w.heap.size, 0, none⟩)) ∧ MaBox w' w.heap.size (.pointer none) none (.slice none 0 0) 0 (.pointer none) [] ∧ Below w.heap.size w w' := by
  go_enter Tryz.func34, Tryz.ntmps34
  go_wp2
  go_ret
  exact ⟨rfl, ma_fresh, ma_new _ _⟩
theorem wlook {w : World} {mb : Option Nat} {M : List Pz} (h : WkAt w mb M) {x : Int} (hx : W6 x) : (Instr.lookup 90 (.map mb) (.int .i64 x) true).run Tryz.prog w = .ok (.tuple #[((getP M x).map pv).getD (.int .i64 0), .bool (getP M x).isSome]) w := by
  cases mb with
  | none =>
    rw [show M = [] from h]
    exact wnil_look hx
  | some b => exact WMap.lookOk h hx
/-- A worker's life; 0: it is not there. -/
def lifeP (M : List Pz) (x : Int) : Int := ((getP M x).map (·.l)).getD 0
theorem life_val (M : List Pz) (x : Int) : ((getP M x).map pv).getD (.int .i64 0) = .int .i64 (lifeP M x) := by
  unfold lifeP
  cases getP M x <;> rfl
theorem index_none (v : Value) (w : World) : Calls Tryz.prog 214 #[.slice none 0 0, v] w fun r w' => r = .returned (.int .i64 (-1)) ∧ w' = w := by
  go_enter Tryz.func214, Tryz.ntmps214
  go_wp2
  go_loopw [5, 8] (fun _ i wr => i = .int .i64 0 ∧ wr = w) (fun _ _ _ => 0)
  case atStart => exact ⟨rfl, rfl⟩
  case round =>
    obtain ⟨rfl, rfl⟩ := hrel
    go_wp2
    go_ret
    exact ⟨rfl, rfl⟩
theorem mfirst_none {w : World} {p : Nat} {ax cr : Value} {mb : Option Nat} {ep : Int} {M : List Pz} (h : MaBox w p ax mb (.slice none 0 0) ep cr M) : Calls Tryz.prog 175 #[.pointer (some ⟨p, 0, none⟩)] w fun r w' => r = .returned (.pointer none) ∧ w' = w := by
  obtain ⟨-, -, c2, -, -⟩ := h.c
  clear h
  go_enter Tryz.func175, Tryz.ntmps175
  go_wp2_with (go_at_call 214; refine (index_none _ _).mono ?_; rintro r w1 ⟨rfl, rfl⟩)
  go_ret
  exact ⟨rfl, rfl⟩
theorem has_none (x : Int) (w : World) : Calls Tryz.prog 131 #[.pointer none, .int .i64 x] w fun r w' => r = .returned (.bool false) ∧ w' = w := by
  go_enter Tryz.func131, Tryz.ntmps131
  go_wp2
  go_ret
  exact ⟨rfl, rfl⟩
end Go.Proofs.YtidghoipmggklaaGreat
