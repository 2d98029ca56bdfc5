/- A graph of one's own in memory: its row of vertices, each vertex's row of edges, all of them apart. -/
import Derived.Test.YthnhmhjcpdomcaaMuIns
import Derived.Test.YthnhmhjcpdomcaaMuDo
import Derived.Test.YthnhmhjcpdomcaaGrClone
namespace Go.Proofs.Ythnhmhjcpdomcaa
open Go.RowKit
/-- The cells of vertices, with the slices of their edges. -/
def gcs (L : List (Vx × Value)) : List Value := L.flatMap fun x => [.int .i64 x.1.id, .int .i64 x.1.val, x.2]
theorem gcs_app (A B : List (Vx × Value)) : gcs (A ++ B) = gcs A ++ gcs B := by simp [gcs]
theorem gcs_cons (x : Vx × Value) (B : List (Vx × Value)) : gcs (x :: B) = [.int .i64 x.1.id, .int .i64 x.1.val, x.2] ++ gcs B := by simp [gcs]
theorem gcs_len (L : List (Vx × Value)) : (gcs L).length = L.length * 3 := by
  induction L with
  | nil => rfl
  | cons x L ih => rw [gcs_cons, List.length_append, ih]; simp; omega
theorem gcs_take (L : List (Vx × Value)) (n : Nat) : (gcs L).take (n * 3) = gcs (L.take n) := by
  by_cases h : n ≤ L.length
  · conv => lhs; rw [← List.take_append_drop n L, gcs_app]
    rw [List.take_left' (by rw [gcs_len, List.length_take]; omega)]
  · rw [List.take_of_length_le (by rw [gcs_len]; omega), List.take_of_length_le (by omega)]
theorem gcs_drop (L : List (Vx × Value)) (n : Nat) : (gcs L).drop (n * 3) = gcs (L.drop n) := by
  by_cases h : n ≤ L.length
  · conv => lhs; rw [← List.take_append_drop n L, gcs_app]
    rw [List.drop_left' (by rw [gcs_len, List.length_take]; omega)]
  · rw [List.drop_of_length_le (by rw [gcs_len]; omega), List.drop_of_length_le (by omega)]; rfl
theorem gcs_at (A B : List (Vx × Value)) (x : Vx × Value) : (gcs (A ++ x :: B))[A.length * 3]? = some (.int .i64 x.1.id) ∧ (gcs (A ++ x :: B))[A.length * 3 + 1]? = some (.int .i64 x.1.val) ∧ (gcs (A ++ x :: B))[A.length * 3 + 2]? = some x.2 := by
  have hl := gcs_len A
  refine ⟨?_, ?_, ?_⟩ <;> (rw [gcs_app, gcs_cons, List.getElem?_append_right (by omega), hl]; simp)
theorem ecs_app (A B : List Ed) : ecs (A ++ B) = ecs A ++ ecs B := by simp [ecs]
theorem ecs_take (L : List Ed) (n : Nat) : (ecs L).take (n * 2) = ecs (L.take n) := by
  by_cases h : n ≤ L.length
  · conv => lhs; rw [← List.take_append_drop n L, ecs_app]
    rw [List.take_left' (by rw [ecs_len, List.length_take]; omega)]
  · rw [List.take_of_length_le (by rw [ecs_len]; omega), List.take_of_length_le (by omega)]
theorem ecs_drop (L : List Ed) (n : Nat) : (ecs L).drop (n * 2) = ecs (L.drop n) := by
  by_cases h : n ≤ L.length
  · conv => lhs; rw [← List.take_append_drop n L, ecs_app]
    rw [List.drop_left' (by rw [ecs_len, List.length_take]; omega)]
  · rw [List.drop_of_length_le (by rw [ecs_len]; omega), List.drop_of_length_le (by omega)]; rfl
/-- Two slices lie apart. -/
def Apart (x y : Vx × Value) : Prop := ∀ k, x.2.ownBlock = some k → y.2.ownBlock ≠ some k
/-- A graph of one's own. -/
structure GW (w : World) (base : Nat) (sv : Value) (L : List (Vx × Value)) : Prop where
  row : w.ownsRow base 84 3 sv L.length (gcs L)
  eds : ∀ x ∈ L, w.ownsRow base 81 2 x.2 x.1.es.length (ecs x.1.es)
  apart : L.Pairwise Apart
theorem own_keep {w w' : World} {base : Nat} {e : TypeId} {size : Nat} {v : Value} {n : Nat} {xs : List Value} {S : Nat → Prop} (h : w.ownsRow base e size v n xs) (f : Fr w w' S) (hS : ∀ k, v.ownBlock = some k → ¬ S k) : w'.ownsRow base e size v n xs := by
  refine ⟨h.1, ?_⟩
  rcases h.2 with hn | ⟨g, cap, cur, rfl, hb, hg, rest⟩
  · exact .inl hn
  · exact .inr ⟨g, cap, cur, rfl, hb, (f.block g (Array.getElem?_eq_some_iff.1 hg).1 (hS g rfl)).trans hg, rest⟩
theorem own_diff {w : World} {base base' : Nat} {e t : TypeId} {size size' n n' : Nat} {v v' : Value} {xs xs' : List Value} (h : w.ownsRow base e size v n xs) (h' : w.ownsRow base' t size' v' n' xs') (hn : e ≠ t) : ∀ k, v'.ownBlock = some k → v.ownBlock ≠ some k := by
  intro k hk hv
  rcases h.2 with ⟨rfl, _⟩ | ⟨g, cap, cur, rfl, _, hg, _⟩
  · cases hv
  · rcases h'.2 with ⟨rfl, _⟩ | ⟨g', cap', cur', rfl, _, hg', _⟩
    · cases hk
    · cases hv; cases hk
      rw [hg] at hg'
      cases hg'
      exact hn rfl
section
variable {w : World} {base : Nat} {sv : Value} {L : List (Vx × Value)}
theorem GW.keep (h : GW w base sv L) {w' : World} {S : Nat → Prop} (f : Fr w w' S) (hS : ∀ k, S k → k < base) : GW w' base sv L :=
  ⟨own_keep h.row f (fun k hk hs => by have := (h.row.lt k hk).1; have := hS k hs; omega), fun x hx => own_keep (h.eds x hx) f (fun k hk hs => by have := ((h.eds x hx).lt k hk).1; have := hS k hs; omega), h.apart⟩
theorem GW.new (h : GW w base sv L) {w' : World} (hb : Below w.heap.size w w') : GW w' base sv L := h.keep (Fr.ofBelow hb (fun _ => False)) (fun _ hk => hk.elim)
/-- What is read of it. -/
theorem GW.at_ (h : GW w base sv L) : ∃ ao cap, sv = .slice ao L.length cap ∧ VxAt w (fun k => base ≤ k) ao (L.map (·.1)) := by
  rcases h.row.2 with ⟨h1, h2⟩ | ⟨g, cap, cur, h1, hb, hg, hn, hc, hcs, ht⟩
  · refine ⟨none, 0, by rw [h1, h2], fun hl => ?_⟩
    rw [List.length_map] at hl; omega
  · refine ⟨some ⟨g, 0, none⟩, cap, h1, fun _ => ⟨g, 0, rfl, hb, fun j hj => ?_⟩⟩
    have hj' : j < L.length := by simpa using hj
    have hcell : ∀ i (u : Value), (gcs L)[i]? = some u → w.cell? ⟨g, i, none⟩ = some u := fun i u hu => by
      have := h.row.cells (g := g) (by rw [h1]; rfl) i u hu
      rwa [Addr.add_lit, Nat.zero_add] at this
    have hL : L = L.take j ++ L[j] :: L.drop (j + 1) := by rw [← List.drop_eq_getElem_cons hj', List.take_append_drop]
    have ha := gcs_at (L.take j) (L.drop (j + 1)) L[j]
    rw [← hL, List.length_take, Nat.min_eq_left (by omega)] at ha
    rw [Nat.zero_add]
    have he := h.eds L[j] (List.getElem_mem hj')
    obtain ⟨eo, m, ec, hv⟩ := own_any he
    rw [hv] at he
    obtain ⟨hm, hE⟩ := own_eds he
    rw [List.getElem_map]
    refine ⟨eo, ec, hcell _ _ ha.1, hcell _ _ ha.2.1, ?_, hE.mono (fun k _ hk => hk.1)⟩
    rw [hcell _ _ ha.2.2, hv, hm]
end
theorem over_take_in (cur : List Value) (o : Nat) (vs : List Value) {N : Nat} (h : o + vs.length ≤ N) (hN : N ≤ cur.length) : (over cur o vs).take N = over (cur.take N) o vs := by
  unfold over
  rw [List.take_append, List.take_of_length_le (by simp; omega), List.take_take, Nat.min_eq_left (by omega), List.drop_take]
  congr 1
  congr 1
  simp
  omega
theorem over_third (a b : List Value) (u0 u1 u2 ev : Value) : over (a ++ ([u0, u1, u2] ++ b)) (a.length + 2) [ev] = a ++ ([u0, u1, ev] ++ b) := by
  unfold over
  have e1 : a ++ ([u0, u1, u2] ++ b) = (a ++ [u0, u1]) ++ (u2 :: b) := by simp
  have e2 : a ++ ([u0, u1, u2] ++ b) = (a ++ [u0, u1, u2]) ++ b := by simp
  conv => lhs; arg 1; rw [e1, List.take_left' (by simp)]
  rw [e2, List.drop_left' (by simp)]
  simp
/-- One vertex's edges anew. -/
theorem GW.put {w W : World} {base : Nat} {rb cap : Nat} {A B : List (Vx × Value)} {x : Vx × Value} (h : GW w base (.slice (some ⟨rb, 0, none⟩) (A ++ x :: B).length cap) (A ++ x :: B)) {es : List Ed} {ev : Value} (hf : Fr w W (fun k => x.2.ownBlock = some k))
    (ho : W.ownsRow base 81 2 ev es.length (ecs es)) (hat : ev.ownBlock = x.2.ownBlock ∨ ∀ k, ev.ownBlock = some k → w.heap.size ≤ k) :
    GW (W.setCell ⟨rb, A.length * 3 + 2, none⟩ ev) base (.slice (some ⟨rb, 0, none⟩) (A ++ x :: B).length cap) (A ++ (⟨x.1.id, x.1.val, es⟩, ev) :: B) := by
  have hne : ∀ y ∈ A ++ x :: B, y.2.ownBlock ≠ some rb := fun y hy e => own_diff h.row (h.eds y hy) (by decide) rb e rfl
  have hap := h.apart
  rw [List.pairwise_append, List.pairwise_cons] at hap
  have hap' : ∀ y, (y ∈ A ∨ y ∈ B) → ∀ k, y.2.ownBlock = some k → x.2.ownBlock ≠ some k := by
    rintro y (hy | hy) k hk hx
    · exact hap.2.2 y hy x (by simp) k hk hx
    · exact hap.2.1.1 y hy k hx hk
  have hlt : ∀ y ∈ A ++ x :: B, ∀ k, y.2.ownBlock = some k → k < w.heap.size := fun y hy k hk => ((h.eds y hy).lt k hk).2
  have hev : ∀ y, (y ∈ A ∨ y ∈ B) → ∀ k, y.2.ownBlock = some k → ev.ownBlock ≠ some k := by
    intro y hy k hk e
    rcases hat with e' | e'
    · rw [e'] at e; exact hap' y hy k hk e
    · have := e' k e
      have := hlt y (by rcases hy with hy | hy <;> simp [hy]) k hk
      omega
  have hrb : rb < w.heap.size := (h.row.lt rb rfl).2
  have hevr : ev.ownBlock ≠ some rb := by
    rcases hat with e' | e'
    · rw [e']; exact hne x (by simp)
    · intro e; have := e' rb e; omega
  have fs : Fr W (W.setCell ⟨rb, A.length * 3 + 2, none⟩ ev) (fun k => k = rb) := Fr.setCell (S := fun k => k = rb) W ⟨rb, _, none⟩ ev rfl
  have hxr : x.2.ownBlock ≠ some rb := hne x (by simp)
  refine ⟨?_, fun y hy => ?_, ?_⟩
  · have hrow := own_keep h.row hf (fun k hk e => by cases hk; exact hxr e)
    obtain ⟨g, cap', cur, h1, hn, hB, ht⟩ := own_blk hrow (by rw [List.length_append, List.length_cons]; omega)
    cases h1
    have hlen : (A ++ x :: B).length = A.length + 1 + B.length := by simp; omega
    have hmul : (A ++ x :: B).length * 3 ≤ cap * 3 := Nat.mul_le_mul_right 3 hn
    have hB2 := (hB.set (A.length * 3 + 2) [ev] (by simp only [List.length_singleton]; omega)).own hn
    have hsz := hB.size
    rw [over_take_in _ _ _ (by simp only [List.length_singleton]; omega) (by omega), ht] at hB2
    have e : over (gcs (A ++ x :: B)) (A.length * 3 + 2) [ev] = gcs (A ++ (⟨x.1.id, x.1.val, es⟩, ev) :: B) := by
      have hl := gcs_len A
      rw [gcs_app, gcs_cons, gcs_app, gcs_cons, ← hl]
      exact over_third _ _ _ _ _ _
    rw [e] at hB2
    rw [show (A ++ ((⟨x.1.id, x.1.val, es⟩ : Vx), ev) :: B).length = (A ++ x :: B).length by simp]
    exact hB2
  · rcases List.mem_append.1 hy with hy | hy
    · exact own_keep (own_keep (h.eds y (by simp [hy])) hf (fun k hk e => hap' y (.inl hy) k hk e)) fs (fun k hk e => by subst e; exact hne y (by simp [hy]) hk)
    · rcases List.mem_cons.1 hy with rfl | hy
      · exact own_keep ho fs (fun k hk e => by subst e; exact hevr hk)
      · exact own_keep (own_keep (h.eds y (by simp [hy])) hf (fun k hk e => hap' y (.inr hy) k hk e)) fs (fun k hk e => by subst e; exact hne y (by simp [hy]) hk)
  · rw [List.pairwise_append, List.pairwise_cons]
    refine ⟨hap.1, ⟨fun y hy k hk e => hev y (.inr hy) k e hk, hap.2.1.2⟩, fun y hy z hz => ?_⟩
    rcases List.mem_cons.1 hz with rfl | hz
    · exact fun k hk e => hev y (.inl hy) k hk e
    · exact hap.2.2 y hy z (by simp [hz])
/-- One vertex less. -/
theorem GW.del {w W : World} {base : Nat} {sv sv' : Value} {A B : List (Vx × Value)} {x : Vx × Value} (h : GW w base sv (A ++ x :: B)) (hf : Fr w W (fun k => sv.ownBlock = some k)) (ho : W.ownsRow base 84 3 sv' (A ++ B).length (gcs (A ++ B))) : GW W base sv' (A ++ B) := by
  have hap := h.apart
  rw [List.pairwise_append, List.pairwise_cons] at hap
  refine ⟨ho, fun y hy => ?_, ?_⟩
  · have hy' : y ∈ A ++ x :: B := by rcases List.mem_append.1 hy with h | h <;> simp [h]
    exact own_keep (h.eds y hy') hf (fun k hk e => own_diff h.row (h.eds y hy') (by decide) k hk e)
  · rw [List.pairwise_append]
    exact ⟨hap.1, hap.2.1.2, fun y hy z hz => hap.2.2 y hy z (by simp [hz])⟩
/-- One vertex more, without edges. -/
theorem GW.ins {w W : World} {base : Nat} {sv sv' : Value} {A B : List (Vx × Value)} {v : Vx} (h : GW w base sv (A ++ B)) (hf : Fr w W (fun k => sv.ownBlock = some k)) (hv : v.es = []) (ho : W.ownsRow base 84 3 sv' (A ++ (v, Value.slice none 0 0) :: B).length (gcs (A ++ (v, Value.slice none 0 0) :: B))) : GW W base sv' (A ++ (v, Value.slice none 0 0) :: B) := by
  have hap := h.apart
  rw [List.pairwise_append] at hap
  refine ⟨ho, fun y hy => ?_, ?_⟩
  · have hy' : y ∈ A ++ B ∨ y = (v, Value.slice none 0 0) := by
      rcases List.mem_append.1 hy with h | h
      · simp [h]
      · rcases List.mem_cons.1 h with h | h <;> simp [h]
    rcases hy' with hy' | rfl
    · exact own_keep (h.eds y hy') hf (fun k hk e => own_diff h.row (h.eds y hy') (by decide) k hk e)
    · rw [show ((v, Value.slice none 0 0) : Vx × Value).1.es = [] from hv]
      exact World.ownsRow_nil _ _ _ _
  · rw [List.pairwise_append, List.pairwise_cons]
    refine ⟨hap.1, ⟨fun y _ k hk => (by cases hk), hap.2.1⟩, fun y hy z hz => ?_⟩
    rcases List.mem_cons.1 hz with rfl | hz
    · exact fun k _ e => (by cases e)
    · exact hap.2.2 y hy z hz
end Go.Proofs.Ythnhmhjcpdomcaa
