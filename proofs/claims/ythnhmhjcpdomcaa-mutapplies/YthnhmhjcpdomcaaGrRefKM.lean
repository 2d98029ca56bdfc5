import Derived.Test.YthnhmhjcpdomcaaMuInsM
import Derived.Test.YthnhmhjcpdomcaaMuDelM
import Derived.Test.YthnhmhjcpdomcaaGrClone
import Derived.Deep.Cut
import Derived.Deep.DeepCutAuto
import Derived.Test.YthnhmhjcpdomcaaMuThat
import Derived.Test.YthnhmhjcpdomcaaGrRef
import Derived.Deep.RegionHeldLaw
import Derived.Test.YthnhmhjcpdomcaaGrThere
section
/- A graph of one's own in memory: its row of vertices, each vertex's row of edges, all of them apart. -/
namespace Go.Proofs.Ythnhmhjcpdomcaa
open Go.RowKit
/-- The cells of vertices, with the slices of their edges. -/
def gcs (L : List (Vx × Value)) : List Value := L.flatMap fun x => [.int .i64 x.1.id, .int .i64 x.1.val, x.2]
theorem gcs_app (A B : List (Vx × Value)) : gcs (A ++ B) = gcs A ++ gcs B := by simp [gcs]
theorem gcs_cons (x : Vx × Value) (B : List (Vx × Value)) : gcs (x :: B) = [.int .i64 x.1.id, .int .i64 x.1.val, x.2] ++ gcs B := by simp [gcs]
theorem gcs_len (L : List (Vx × Value)) : (gcs L).length = L.length * 3 := by
  induction L with
  | nil => rfl
  | cons x L ih => rw [gcs_cons, List.length_append, ih]; simp; omega
theorem gcs_take (L : List (Vx × Value)) (n : Nat) : (gcs L).take (n * 3) = gcs (L.take n) := by
  by_cases h : n ≤ L.length
  · conv => lhs; rw [← List.take_append_drop n L, gcs_app]
    rw [List.take_left' (by rw [gcs_len, List.length_take]; omega)]
  · rw [List.take_of_length_le (by rw [gcs_len]; omega), List.take_of_length_le (by omega)]
theorem gcs_drop (L : List (Vx × Value)) (n : Nat) : (gcs L).drop (n * 3) = gcs (L.drop n) := by
  by_cases h : n ≤ L.length
  · conv => lhs; rw [← List.take_append_drop n L, gcs_app]
    rw [List.drop_left' (by rw [gcs_len, List.length_take]; omega)]
  · rw [List.drop_of_length_le (by rw [gcs_len]; omega), List.drop_of_length_le (by omega)]; rfl
theorem gcs_at (A B : List (Vx × Value)) (x : Vx × Value) : (gcs (A ++ x :: B))[A.length * 3]? = some (.int .i64 x.1.id) ∧ (gcs (A ++ x :: B))[A.length * 3 + 1]? = some (.int .i64 x.1.val) ∧ (gcs (A ++ x :: B))[A.length * 3 + 2]? = some x.2 := by
  have hl := gcs_len A
  refine ⟨?_, ?_, ?_⟩ <;> (rw [gcs_app, gcs_cons, List.getElem?_append_right (by omega), hl]; simp)
theorem ecs_app (A B : List Ed) : ecs (A ++ B) = ecs A ++ ecs B := by simp [ecs]
theorem ecs_take (L : List Ed) (n : Nat) : (ecs L).take (n * 2) = ecs (L.take n) := by
  by_cases h : n ≤ L.length
  · conv => lhs; rw [← List.take_append_drop n L, ecs_app]
    rw [List.take_left' (by rw [ecs_len, List.length_take]; omega)]
  · rw [List.take_of_length_le (by rw [ecs_len]; omega), List.take_of_length_le (by omega)]
theorem ecs_drop (L : List Ed) (n : Nat) : (ecs L).drop (n * 2) = ecs (L.drop n) := by
  by_cases h : n ≤ L.length
  · conv => lhs; rw [← List.take_append_drop n L, ecs_app]
    rw [List.drop_left' (by rw [ecs_len, List.length_take]; omega)]
  · rw [List.drop_of_length_le (by rw [ecs_len]; omega), List.drop_of_length_le (by omega)]; rfl
/-- Two slices lie apart. -/
def Apart (x y : Vx × Value) : Prop := ∀ k, x.2.ownBlock = some k → y.2.ownBlock ≠ some k
/-- A graph of one's own. -/
structure GW (w : World) (base : Nat) (sv : Value) (L : List (Vx × Value)) : Prop where
  row : w.ownsRow base 84 3 sv L.length (gcs L)
  eds : ∀ x ∈ L, w.ownsRow base 81 2 x.2 x.1.es.length (ecs x.1.es)
  apart : L.Pairwise Apart
theorem own_keep {w w' : World} {base : Nat} {e : TypeId} {size : Nat} {v : Value} {n : Nat} {xs : List Value} {S : Nat → Prop} (h : w.ownsRow base e size v n xs) (f : Fr w w' S) (hS : ∀ k, v.ownBlock = some k → ¬ S k) : w'.ownsRow base e size v n xs := by
  refine ⟨h.1, ?_⟩
  rcases h.2 with hn | ⟨g, cap, cur, rfl, hb, hg, rest⟩
  · exact .inl hn
  · exact .inr ⟨g, cap, cur, rfl, hb, (f.block g (Array.getElem?_eq_some_iff.1 hg).1 (hS g rfl)).trans hg, rest⟩
theorem own_diff {w : World} {base base' : Nat} {e t : TypeId} {size size' n n' : Nat} {v v' : Value} {xs xs' : List Value} (h : w.ownsRow base e size v n xs) (h' : w.ownsRow base' t size' v' n' xs') (hn : e ≠ t) : ∀ k, v'.ownBlock = some k → v.ownBlock ≠ some k := by
  intro k hk hv
  rcases h.2 with ⟨rfl, _⟩ | ⟨g, cap, cur, rfl, _, hg, _⟩
  · cases hv
  · rcases h'.2 with ⟨rfl, _⟩ | ⟨g', cap', cur', rfl, _, hg', _⟩
    · cases hk
    · cases hv; cases hk
      rw [hg] at hg'
      cases hg'
      exact hn rfl
section
variable {w : World} {base : Nat} {sv : Value} {L : List (Vx × Value)}
theorem GW.keep (h : GW w base sv L) {w' : World} {S : Nat → Prop} (f : Fr w w' S) (hS : ∀ k, S k → k < base) : GW w' base sv L :=
  ⟨own_keep h.row f (fun k hk hs => by have := (h.row.lt k hk).1; have := hS k hs; omega), fun x hx => own_keep (h.eds x hx) f (fun k hk hs => by have := ((h.eds x hx).lt k hk).1; have := hS k hs; omega), h.apart⟩
theorem GW.new (h : GW w base sv L) {w' : World} (hb : Below w.heap.size w w') : GW w' base sv L := h.keep (Fr.ofBelow hb (fun _ => False)) (fun _ hk => hk.elim)
/-- What is read of it. -/
theorem GW.at_ (h : GW w base sv L) : ∃ ao cap, sv = .slice ao L.length cap ∧ VxAt w (fun k => base ≤ k) ao (L.map (·.1)) := by
  rcases h.row.2 with ⟨h1, h2⟩ | ⟨g, cap, cur, h1, hb, hg, hn, hc, hcs, ht⟩
  · refine ⟨none, 0, by rw [h1, h2], fun hl => ?_⟩
    rw [List.length_map] at hl; omega
  · refine ⟨some ⟨g, 0, none⟩, cap, h1, fun _ => ⟨g, 0, rfl, hb, fun j hj => ?_⟩⟩
    have hj' : j < L.length := by simpa using hj
    have hcell : ∀ i (u : Value), (gcs L)[i]? = some u → w.cell? ⟨g, i, none⟩ = some u := fun i u hu => by
      have := h.row.cells (g := g) (by rw [h1]; rfl) i u hu
      rwa [Addr.add_lit, Nat.zero_add] at this
    have hL : L = L.take j ++ L[j] :: L.drop (j + 1) := by rw [← List.drop_eq_getElem_cons hj', List.take_append_drop]
    have ha := gcs_at (L.take j) (L.drop (j + 1)) L[j]
    rw [← hL, List.length_take, Nat.min_eq_left (by omega)] at ha
    rw [Nat.zero_add]
    have he := h.eds L[j] (List.getElem_mem hj')
    obtain ⟨eo, m, ec, hv⟩ := own_any he
    rw [hv] at he
    obtain ⟨hm, hE⟩ := own_eds he
    rw [List.getElem_map]
    refine ⟨eo, ec, hcell _ _ ha.1, hcell _ _ ha.2.1, ?_, hE.mono (fun k _ hk => hk.1)⟩
    rw [hcell _ _ ha.2.2, hv, hm]
end
theorem over_take_in (cur : List Value) (o : Nat) (vs : List Value) {N : Nat} (h : o + vs.length ≤ N) (hN : N ≤ cur.length) : (over cur o vs).take N = over (cur.take N) o vs := by
  unfold over
  rw [List.take_append, List.take_of_length_le (by simp; omega), List.take_take, Nat.min_eq_left (by omega), List.drop_take]
  congr 1
  congr 1
  simp
  omega
theorem over_third (a b : List Value) (u0 u1 u2 ev : Value) : over (a ++ ([u0, u1, u2] ++ b)) (a.length + 2) [ev] = a ++ ([u0, u1, ev] ++ b) := by
  unfold over
  have e1 : a ++ ([u0, u1, u2] ++ b) = (a ++ [u0, u1]) ++ (u2 :: b) := by simp
  have e2 : a ++ ([u0, u1, u2] ++ b) = (a ++ [u0, u1, u2]) ++ b := by simp
  conv => lhs; arg 1; rw [e1, List.take_left' (by simp)]
  rw [e2, List.drop_left' (by simp)]
  simp
/-- One vertex's edges anew. -/
theorem GW.put {w W : World} {base : Nat} {rb cap : Nat} {A B : List (Vx × Value)} {x : Vx × Value} (h : GW w base (.slice (some ⟨rb, 0, none⟩) (A ++ x :: B).length cap) (A ++ x :: B)) {es : List Ed} {ev : Value} (hf : Fr w W (fun k => x.2.ownBlock = some k))
    (ho : W.ownsRow base 81 2 ev es.length (ecs es)) (hat : ev.ownBlock = x.2.ownBlock ∨ ∀ k, ev.ownBlock = some k → w.heap.size ≤ k) :
    GW (W.setCell ⟨rb, A.length * 3 + 2, none⟩ ev) base (.slice (some ⟨rb, 0, none⟩) (A ++ x :: B).length cap) (A ++ (⟨x.1.id, x.1.val, es⟩, ev) :: B) := by
  have hne : ∀ y ∈ A ++ x :: B, y.2.ownBlock ≠ some rb := fun y hy e => own_diff h.row (h.eds y hy) (by decide) rb e rfl
  have hap := h.apart
  rw [List.pairwise_append, List.pairwise_cons] at hap
  have hap' : ∀ y, (y ∈ A ∨ y ∈ B) → ∀ k, y.2.ownBlock = some k → x.2.ownBlock ≠ some k := by
    rintro y (hy | hy) k hk hx
    · exact hap.2.2 y hy x (by simp) k hk hx
    · exact hap.2.1.1 y hy k hx hk
  have hlt : ∀ y ∈ A ++ x :: B, ∀ k, y.2.ownBlock = some k → k < w.heap.size := fun y hy k hk => ((h.eds y hy).lt k hk).2
  have hev : ∀ y, (y ∈ A ∨ y ∈ B) → ∀ k, y.2.ownBlock = some k → ev.ownBlock ≠ some k := by
    intro y hy k hk e
    rcases hat with e' | e'
    · rw [e'] at e; exact hap' y hy k hk e
    · have := e' k e
      have := hlt y (by rcases hy with hy | hy <;> simp [hy]) k hk
      omega
  have hrb : rb < w.heap.size := (h.row.lt rb rfl).2
  have hevr : ev.ownBlock ≠ some rb := by
    rcases hat with e' | e'
    · rw [e']; exact hne x (by simp)
    · intro e; have := e' rb e; omega
  have fs : Fr W (W.setCell ⟨rb, A.length * 3 + 2, none⟩ ev) (fun k => k = rb) := Fr.setCell (S := fun k => k = rb) W ⟨rb, _, none⟩ ev rfl
  have hxr : x.2.ownBlock ≠ some rb := hne x (by simp)
  refine ⟨?_, fun y hy => ?_, ?_⟩
  · have hrow := own_keep h.row hf (fun k hk e => by cases hk; exact hxr e)
    obtain ⟨g, cap', cur, h1, hn, hB, ht⟩ := own_blk hrow (by rw [List.length_append, List.length_cons]; omega)
    cases h1
    have hlen : (A ++ x :: B).length = A.length + 1 + B.length := by simp; omega
    have hmul : (A ++ x :: B).length * 3 ≤ cap * 3 := Nat.mul_le_mul_right 3 hn
    have hB2 := (hB.set (A.length * 3 + 2) [ev] (by simp only [List.length_singleton]; omega)).own hn
    have hsz := hB.size
    rw [over_take_in _ _ _ (by simp only [List.length_singleton]; omega) (by omega), ht] at hB2
    have e : over (gcs (A ++ x :: B)) (A.length * 3 + 2) [ev] = gcs (A ++ (⟨x.1.id, x.1.val, es⟩, ev) :: B) := by
      have hl := gcs_len A
      rw [gcs_app, gcs_cons, gcs_app, gcs_cons, ← hl]
      exact over_third _ _ _ _ _ _
    rw [e] at hB2
    rw [show (A ++ ((⟨x.1.id, x.1.val, es⟩ : Vx), ev) :: B).length = (A ++ x :: B).length by simp]
    exact hB2
  · rcases List.mem_append.1 hy with hy | hy
    · exact own_keep (own_keep (h.eds y (by simp [hy])) hf (fun k hk e => hap' y (.inl hy) k hk e)) fs (fun k hk e => by subst e; exact hne y (by simp [hy]) hk)
    · rcases List.mem_cons.1 hy with rfl | hy
      · exact own_keep ho fs (fun k hk e => by subst e; exact hevr hk)
      · exact own_keep (own_keep (h.eds y (by simp [hy])) hf (fun k hk e => hap' y (.inr hy) k hk e)) fs (fun k hk e => by subst e; exact hne y (by simp [hy]) hk)
  · rw [List.pairwise_append, List.pairwise_cons]
    refine ⟨hap.1, ⟨fun y hy k hk e => hev y (.inr hy) k e hk, hap.2.1.2⟩, fun y hy z hz => ?_⟩
    rcases List.mem_cons.1 hz with rfl | hz
    · exact fun k hk e => hev y (.inl hy) k hk e
    · exact hap.2.2 y hy z (by simp [hz])
/-- One vertex less. -/
theorem GW.del {w W : World} {base : Nat} {sv sv' : Value} {A B : List (Vx × Value)} {x : Vx × Value} (h : GW w base sv (A ++ x :: B)) (hf : Fr w W (fun k => sv.ownBlock = some k)) (ho : W.ownsRow base 84 3 sv' (A ++ B).length (gcs (A ++ B))) : GW W base sv' (A ++ B) := by
  have hap := h.apart
  rw [List.pairwise_append, List.pairwise_cons] at hap
  refine ⟨ho, fun y hy => ?_, ?_⟩
  · have hy' : y ∈ A ++ x :: B := by rcases List.mem_append.1 hy with h | h <;> simp [h]
    exact own_keep (h.eds y hy') hf (fun k hk e => own_diff h.row (h.eds y hy') (by decide) k hk e)
  · rw [List.pairwise_append]
    exact ⟨hap.1, hap.2.1.2, fun y hy z hz => hap.2.2 y hy z (by simp [hz])⟩
/-- One vertex more, without edges. -/
theorem GW.ins {w W : World} {base : Nat} {sv sv' : Value} {A B : List (Vx × Value)} {v : Vx} (h : GW w base sv (A ++ B)) (hf : Fr w W (fun k => sv.ownBlock = some k)) (hv : v.es = []) (ho : W.ownsRow base 84 3 sv' (A ++ (v, Value.slice none 0 0) :: B).length (gcs (A ++ (v, Value.slice none 0 0) :: B))) : GW W base sv' (A ++ (v, Value.slice none 0 0) :: B) := by
  have hap := h.apart
  rw [List.pairwise_append] at hap
  refine ⟨ho, fun y hy => ?_, ?_⟩
  · have hy' : y ∈ A ++ B ∨ y = (v, Value.slice none 0 0) := by
      rcases List.mem_append.1 hy with h | h
      · simp [h]
      · rcases List.mem_cons.1 h with h | h <;> simp [h]
    rcases hy' with hy' | rfl
    · exact own_keep (h.eds y hy') hf (fun k hk e => own_diff h.row (h.eds y hy') (by decide) k hk e)
    · rw [show ((v, Value.slice none 0 0) : Vx × Value).1.es = [] from hv]
      exact World.ownsRow_nil _ _ _ _
  · rw [List.pairwise_append, List.pairwise_cons]
    refine ⟨hap.1, ⟨fun y _ k hk => (by cases hk), hap.2.1⟩, fun y hy z hz => ?_⟩
    rcases List.mem_cons.1 hz with rfl | hz
    · exact fun k _ e => (by cases e)
    · exact hap.2.2 y hy z hz
end Go.Proofs.Ythnhmhjcpdomcaa
end

section
/- graph.Clone: the same graph, in memory of its own, that can be written. -/
namespace Go.Proofs.Ythnhmhjcpdomcaa
open Go.RowKit
theorem own_low {w : World} {base base' : Nat} {e : TypeId} {size : Nat} {v : Value} {n : Nat} {xs : List Value} (h : w.ownsRow base e size v n xs) (hb : base' ≤ base) : w.ownsRow base' e size v n xs := by
  refine ⟨h.1, ?_⟩
  rcases h.2 with hn | ⟨g, cap, cur, h1, h2, rest⟩
  · exact .inl hn
  · exact .inr ⟨g, cap, cur, h1, by omega, rest⟩
theorem GW.low {w : World} {base base' : Nat} {sv : Value} {L : List (Vx × Value)} (h : GW w base sv L) (hb : base' ≤ base) : GW w base' sv L := ⟨own_low h.row hb, fun x hx => own_low (h.eds x hx) hb, h.apart⟩
theorem GW.app {w w1 : World} {base : Nat} {sv sv' : Value} {L : List (Vx × Value)} {y : Vx} {ev : Value} (h : GW w base sv L) (he : w.ownsRow base 81 2 ev y.es.length (ecs y.es)) (ha : ∀ x ∈ L, ∀ k, x.2.ownBlock = some k → ev.ownBlock ≠ some k)
    (ho : w1.ownsRow base 84 3 sv' (L.length + 1) (gcs L ++ [.int .i64 y.id, .int .i64 y.val, ev])) (hg : w.grownBy w1 sv.ownBlock) : GW w1 base sv' (L ++ [(y, ev)]) := by
  have f : Fr w w1 (fun k => sv.ownBlock = some k) := Fr.grown hg (fun k hk => hk)
  refine ⟨?_, fun x hx => ?_, ?_⟩
  · rw [List.length_append, gcs_app]
    exact ho
  · rcases List.mem_append.1 hx with hx | hx
    · exact own_keep (h.eds x hx) f (fun k hk e => own_diff h.row (h.eds x hx) (by decide) k hk e)
    · rw [List.mem_singleton] at hx
      subst hx
      exact own_keep he f (fun k hk e => own_diff h.row he (by decide) k hk e)
  · rw [List.pairwise_append]
    exact ⟨h.apart, List.pairwise_singleton _ _, fun x hx z hz => by rw [List.mem_singleton] at hz; subst hz; exact ha x hx⟩
set_option maxRecDepth 100000 in
theorem clonesW_any {w : World} {P : Nat → Prop} {ao : Option Addr} (L : List Ed) (cap : Nat) (h : EdAt w P ao L) (hl : L.length ≤ 8796093022208) :
    Calls Try.prog 94 #[.slice ao L.length cap] w fun r w' => ∃ v, r = .returned v ∧ w'.ownsRow w.heap.size 81 2 v L.length (ecs L) ∧ Below w.heap.size w w' := by
  obtain ⟨i0, hi, hz0, hz1, hz2⟩ := info_parts infoEdge
  cases ao with
  | none =>
    have hL : L = [] := List.eq_nil_of_length_eq_zero (Nat.eq_zero_of_not_pos (fun hp => by obtain ⟨b, off, e, _⟩ := h hp; cases e))
    subst hL
    have hq := nil_eq
    go_enter Try.func94, Try.ntmps94
    go_wp2
    go_ret
    exact ⟨_, rfl, World.ownsRow_nil _ _ _ _, Below.refl _ _⟩
  | some ad =>
    have HN : Hid (∀ j u, (ecs L)[j]? = some u → (w.alloc (.cells #[] 81)).cell? (ad.add j) = some u) := ecs_cell (h.new (one_new _ _))
    have HO : Hid _ := own_empty (w := w) (base := w.heap.size) (t := 81) (size := 2) (Nat.le_refl _)
    clear h
    have hq := nil_ne
    go_enter Try.func94, Try.ntmps94
    go_wp2_with (at_builtin; refine wpList_append_own_at _ rfl _ _ 82 rfl w.heap.size 81 i0 (.agg #[.int .i64 0, .int .i64 0]) 2 16 Try.underlying82 hi hz0 hz1 hz2 rfl (by decide) _ _ _ rfl HO.out ad L.length cap (ecs L) rfl (ecs_len L) HN.out (ecs_one L) (by unfold maxLen; omega) (by omega) (by simp) ?_)
    intro v' w1 hown hgrow _ _
    obtain ⟨bo, m, c, rfl⟩ := own_any hown
    have HOw : Hid _ := hown
    clear hown
    have hb : Below w.heap.size w w1 := (one_new w _).trans ((Fr.grown (S := fun k => k = w.heap.size) hgrow (fun k hk => by cases hk; rfl)).below (by simp) (fun k hk => by omega))
    go_wp2
    go_ret
    exact ⟨_, rfl, HOw.out, hb⟩
set_option maxRecDepth 100000 in
theorem clonevW_any {w : World} {P : Nat → Prop} {eo : Option Addr} (x : Vx) (ec : Nat) (h : EdAt w P eo x.es) (hl : x.es.length ≤ 8796093022208) :
    Calls Try.prog 66 #[.agg #[.int .i64 x.id, .int .i64 x.val, .slice eo x.es.length ec]] w fun r w' => ∃ ev, r = .returned (.agg #[.int .i64 x.id, .int .i64 x.val, ev]) ∧ w'.ownsRow w.heap.size 81 2 ev x.es.length (ecs x.es) ∧ Below w.heap.size w w' := by
  have HE : Hid (∀ W, Below w.heap.size w W → EdAt W P eo x.es) := fun W hb => h.new hb
  have HB : Hid (Below w.heap.size w ((w.alloc (.cells #[.int .i64 x.id, .int .i64 x.val, .slice eo x.es.length ec] 84)).alloc (.cells #[.int .i64 0, .int .i64 0, .slice none 0 0] 84))) := b2 _ _ _
  have X1 : Hid (((w.alloc (.cells #[.int .i64 x.id, .int .i64 x.val, .slice eo x.es.length ec] 84)).alloc (.cells #[.int .i64 0, .int .i64 0, .slice none 0 0] 84)).heap[w.heap.size]? = some (.cells #[.int .i64 x.id, .int .i64 x.val, .slice eo x.es.length ec] 84 (0, 0))) := (Below.heap_alloc _ _ _ (by simp)).trans (heap_alloc_new _ _)
  have X2 : Hid (((w.alloc (.cells #[.int .i64 x.id, .int .i64 x.val, .slice eo x.es.length ec] 84)).alloc (.cells #[.int .i64 0, .int .i64 0, .slice none 0 0] 84)).heap[w.heap.size + 1]? = some (.cells #[.int .i64 0, .int .i64 0, .slice none 0 0] 84 (0, 0))) := by
    have := heap_alloc_new (w.alloc (.cells #[.int .i64 x.id, .int .i64 x.val, .slice eo x.es.length ec] 84)) (.cells #[.int .i64 0, .int .i64 0, .slice none 0 0] 84)
    rw [World.size_alloc] at this
    exact this
  clear h
  go_enter Try.func66, Try.ntmps66
  go_wp2_with (go_at_call 94; refine (clonesW_any x.es ec (HE.out _ HB.out) hl).mono ?_; rintro r w1 ⟨ev, rfl, hE1, hb1⟩; obtain ⟨bo, mm, c, rfl⟩ := own_any hE1; have HE1 : Hid _ := hE1; clear hE1; have y1 := (hb1.block _ (lt_of_block X1.out)).trans X1.out; have y2 := (hb1.block _ (lt_of_block X2.out)).trans X2.out; obtain ⟨p0, p1, p2⟩ := box3 y1; have p3 := froz (o := 2) y1; obtain ⟨q0, q1, q2⟩ := box3 y2; have q3 := froz (o := 0) y2; have q4 := froz (o := 1) y2; have q5 := froz (o := 2) y2; have Y1 : Hid _ := y1; have Y2 : Hid _ := y2; clear y1 y2)
  have hB1 : Below w.heap.size w w1 := HB.out.trans (hb1.mono HB.out.size)
  generalize hW : World.setCell _ _ _ = W
  have f1 : Fr w1 W (fun k => k = w.heap.size ∨ k = w.heap.size + 1) := by
    rw [← hW]
    have hs1 : ∀ (w' : World) (o : Nat) (u : Value), Fr w' (w'.setCell ⟨w.heap.size, o, none⟩ u) (fun k => k = w.heap.size ∨ k = w.heap.size + 1) := fun w' o u => Fr.setCell (S := fun k => k = w.heap.size ∨ k = w.heap.size + 1) w' ⟨w.heap.size, o, none⟩ u (Or.inl rfl)
    have hs2 : ∀ (w' : World) (o : Nat) (u : Value), Fr w' (w'.setCell ⟨w.heap.size + 1, o, none⟩ u) (fun k => k = w.heap.size ∨ k = w.heap.size + 1) := fun w' o u => Fr.setCell (S := fun k => k = w.heap.size ∨ k = w.heap.size + 1) w' ⟨w.heap.size + 1, o, none⟩ u (Or.inr rfl)
    exact (((hs1 _ _ _).trans (hs2 _ _ _) (fun _ _ h => h)).trans (hs2 _ _ _) (fun _ _ h => h)).trans (hs2 _ _ _) (fun _ _ h => h)
  have b1 : W.heap[w.heap.size + 1]? = some (.cells #[.int .i64 x.id, .int .i64 x.val, .slice bo mm c] 84 (0, 0)) := by
    rw [← hW]
    have h0 : (w1.setCell ⟨w.heap.size, 2, none⟩ (.slice bo mm c)).heap[w.heap.size + 1]? = some (.cells #[.int .i64 0, .int .i64 0, .slice none 0 0] 84 (0, 0)) := (Below.heap_setCell w1 ⟨w.heap.size, 2, none⟩ _ (w.heap.size + 1) (by show w.heap.size + 1 ≠ w.heap.size; omega)).trans Y2.out
    exact cl_set3 h0 _ _ _
  refine bodyPost_ret (v := .agg #[.int .i64 x.id, .int .i64 x.val, .slice bo mm c]) (results_cell_row Try.results66 _ _ (w.heap.size + 1) 84 _ (0, 0) _ rfl b1 Try.underlying84 rfl sizeVx) rfl ?_
  have hz1 := lt_of_block X2.out
  exact ⟨_, rfl, own_keep (own_low HE1.out (by have := HB.out.size; omega)) f1 (fun k hk e => by have := (World.ownsRow.lt HE1.out k hk).1; have := HB.out.size; rcases e with e | e <;> omega), hB1.trans (f1.below hB1.size (fun k hk => by omega))⟩
theorem cl_oneW {W : World} {b : Nat} {t : TypeId} {u0 : Value} (h : W.heap[b]? = some (.cells #[u0] t (0, 0))) : W.cell? ⟨b, 0, none⟩ = some u0 ∧ W.frozen? ⟨b, 0, none⟩ = false := by
  refine ⟨?_, froz h⟩
  simp [World.cell?, h]
theorem cl_set1W {w : World} {b : Nat} {t : TypeId} {u0 : Value} (h : w.heap[b]? = some (.cells #[u0] t (0, 0))) (x : Value) : (w.setCell ⟨b, 0, none⟩ x).heap[b]? = some (.cells #[x] t (0, 0)) := by
  have hlt := lt_of_block h
  have h' : w.heap[b] = .cells #[u0] t (0, 0) := by simpa [Array.getElem?_eq_getElem hlt] using h
  show (w.heap.modify b _)[b]? = _
  rw [Array.getElem?_eq_getElem (by simpa using hlt), Array.getElem_modify_self, h']
  rfl
theorem sizeGrW : (Try.prog.info? 24).map (·.size) = some 1 := by kernel_rfl
set_option maxRecDepth 100000 in
set_option maxHeartbeats 1000000 in
theorem cloneW_any {w : World} {P : Nat → Prop} {ao : Option Addr} (G : List Vx) (cap : Nat) (h : VxAt w P ao G) (hok : ∀ v ∈ G, v.ok) (hl : G.length * 40 ≤ 140737488355328) :
    Calls Try.prog 44 #[.agg #[.slice ao G.length cap]] w fun r w' => ∃ sv L, r = .returned (.agg #[sv]) ∧ L.map (·.1) = G ∧ GW w' w.heap.size sv L ∧ Below w.heap.size w w' := by
  obtain ⟨i0, hi, hz0, hz1, hz2⟩ := info_parts mInfoV
  have HG : Hid (VxAt w P ao G) := h
  have HOk : Hid (∀ v ∈ G, v.ok) := hok
  clear h hok
  go_enter Try.func44, Try.ntmps44
  go_wp2
  go_loopw [3, 9] (fun u i wr => ∃ (j : Nat) (fo : Option Addr) (m c : Nat), j ≤ G.length ∧ u = .slice fo m c ∧ i = .int .i64 j ∧ (∃ L, L.map (·.1) = G.take j ∧ GW wr (w.heap.size + 1 + 1) (.slice fo m c) L) ∧ wr.heap[w.heap.size + 1]? = some (.cells #[.slice none 0 0] 24 (0, 0)) ∧ Below w.heap.size w wr) (fun _ i _ => G.length - (intOf i).toNat)
  case atStart =>
    refine ⟨0, none, 0, 0, Nat.zero_le _, rfl, rfl, ⟨[], rfl, ⟨World.ownsRow_nil _ _ _ _, fun x hx => (by cases hx), List.Pairwise.nil⟩⟩, ?_, b2 _ _ _⟩
    have := heap_alloc_new (w.alloc (.cells #[.slice ao G.length cap] 24)) (.cells #[.slice none 0 0] 24)
    rw [World.size_alloc] at this
    exact this
  case round =>
    obtain ⟨j, fo, m, c, hj, rfl, rfl, ⟨L, hL, hR⟩, hq, hb⟩ := hrel
    have hLl : L.length = j := by have := congrArg List.length hL; rw [List.length_map, List.length_take] at this; omega
    by_cases hlt : j < G.length
    · obtain ⟨b, off, rfl, hP, hc⟩ := HG.out (by omega)
      obtain ⟨eo, ec, e0, e1, e2, e3⟩ := hc j hlt
      have hbb := lt_cell e0
      have d0 := (hb.cell (p := ⟨b, off + j * 3, none⟩) hbb).trans e0
      have d1 := (hb.cell (p := ⟨b, off + j * 3 + 1, none⟩) hbb).trans e1
      have d2 := (hb.cell (p := ⟨b, off + j * 3 + 2, none⟩) hbb).trans e2
      have HE : Hid (EdAt w P eo G[j].es) := e3
      have hlen : G[j].es.length ≤ 8796093022208 := (HOk.out _ (List.getElem_mem hlt)).len
      have HS : Hid (G.take (j + 1) = G.take j ++ [G[j]]) := List.take_succ_eq_append_getElem hlt
      generalize G[j] = y at d0 d1 d2 HE hlen HS
      have HLg : Hid (L.length = j) := hLl
      have HL : Hid (L.map (·.1) = G.take j) := hL
      have HR : Hid _ := hR
      have HQ : Hid _ := hq
      have HB : Hid _ := hb
      have lq := lt_of_block hq
      clear e0 e1 e2 e3 hc hR hq hb hL hLl
      go_wp2_with (first
        | (go_at_call 66; refine (clonevW_any y ec (EdAt.new HE.out (HB.out.alloc HB.out.size _)) hlen).mono ?_; rintro r w1 ⟨ev, rfl, hE1, hb1⟩; obtain ⟨bo, mm, bc', rfl⟩ := own_any hE1; have hR1 := GW.new (GW.new HR.out (one_new wr _)) hb1; have lw1 := hb1.size; have HE1 : Hid _ := hE1; have HR1 : Hid _ := hR1; have hq1 := (hb1.block _ (by rw [World.size_alloc]; omega)).trans ((Below.heap_alloc wr _ _ lq).trans HQ.out); have HQ1 : Hid _ := hq1; have HB1 : Hid _ := (HB.out.alloc HB.out.size _).trans (hb1.mono (by rw [World.size_alloc]; have := HB.out.size; omega)); clear hq1 hE1 hR1 hb1)
        | (at_builtin; refine wpList_append_own_at _ rfl _ _ 22 rfl (w.heap.size + 1 + 1) 84 i0 (.agg #[.int .i64 0, .int .i64 0, .slice none 0 0]) 3 40 Try.underlying22 hi hz0 hz1 hz2 rfl (by decide) _ _ _ rfl (own_new HR1.out.row (one_new w1 (.cells #[.int .i64 y.id, .int .i64 y.val, .slice bo mm bc'] 84))) ⟨w1.heap.size, 0, none⟩ 1 1 [.int .i64 y.id, .int .i64 y.val, .slice bo mm bc'] rfl rfl (three_new (heap_alloc_new _ _)) (by intro u hu; simp at hu; rcases hu with rfl | rfl | rfl <;> rfl) (by rw [HLg.out]; unfold maxLen; omega) (by rw [HLg.out]; omega) (by rw [World.size_alloc] at lw1; simp; omega) ?_))
      intro v' w4 hown hgrow _ hat
      have hR4 := GW.app (y := y) (HR1.out.new (one_new w1 (.cells #[.int .i64 y.id, .int .i64 y.val, .slice bo mm bc'] 84))) (own_new (own_low HE1.out (by rw [World.size_alloc]; have := lt_of_block HQ.out; omega)) (one_new w1 _)) (fun x hx k hk e => by have := (((HR.out.eds x hx)).lt k hk).2; have := (World.ownsRow.lt HE1.out k e).1; rw [World.size_alloc] at this; omega) hown hgrow
      have f4 : Fr (w1.alloc (.cells #[.int .i64 y.id, .int .i64 y.val, .slice bo mm bc'] 84)) w4 (fun k => Value.ownBlock (.slice fo m c) = some k) := Fr.grown hgrow (fun k hk => hk)
      have hB4 : Below w.heap.size w w4 := (HB1.out.alloc HB1.out.size _).trans (f4.below (HB1.out.alloc HB1.out.size _).size (fun k hk => by have := (HR.out.row.lt k hk).1; omega))
      have hq4 := (f4.block _ (by rw [World.size_alloc]; have := lt_of_block HQ1.out; omega) (fun hk => by have := (HR.out.row.lt _ hk).1; omega)).trans ((Below.heap_alloc w1 _ _ (lt_of_block HQ1.out)).trans HQ1.out)
      obtain ⟨ao', m', c', rfl⟩ := own_any hown
      have HR4 : Hid _ := hR4
      have HB4 : Hid _ := hB4
      have HQ4 : Hid _ := hq4
      clear hR4 hB4 hq4 hown hgrow hat f4
      go_wp2
      go_roundw
      case rel => exact ⟨j + 1, _, _, _, by omega, rfl, by go_num, ⟨_, by rw [HS.out, List.map_append, HL.out]; rfl, HR4.out⟩, HQ4.out, HB4.out⟩
      case measure => simp [intOf]; omega
    · obtain rfl : j = G.length := by omega
      rw [List.take_length] at hL
      obtain ⟨p0, p1⟩ := cl_oneW hq
      have HR : Hid _ := hR
      have HL : Hid _ := hL
      clear hR hL
      go_wp2
      refine bodyPost_ret (v := .agg #[.slice fo m c]) (results_cell_row Try.results44 _ _ (w.heap.size + 1) 24 _ (0, 0) _ rfl (cl_set1W hq _) Try.underlying24 rfl sizeGrW) rfl ?_
      exact ⟨_, L, rfl, HL.out, GW.low (HR.out.keep (Fr.setCell (S := fun k => k = w.heap.size + 1) wr ⟨w.heap.size + 1, 0, none⟩ _ rfl) (fun k e => by omega)) (by omega), hb.trans ((Fr.setCell (S := fun k => k = w.heap.size + 1) wr ⟨w.heap.size + 1, 0, none⟩ _ rfl).below hb.size (fun k hk => by omega))⟩
end Go.Proofs.Ythnhmhjcpdomcaa
end

section
/- The law's ref: requests as the document has them; the document's Before. -/
namespace Go.Proofs.Ythnhmhjcpdomcaa
open Go.RowKit Go.Sort
/-- A row of the document's requests of one's own. -/
def RO (w : World) (base : Nat) (v : Value) (L : List Mu) : Prop := w.ownsRow base 45 4 v L.length (L.flatMap muCells)
theorem infoRMu : (Try.prog.info? 45).map (fun i => (i.zero, i.size, i.bytes)) = some (some (.agg #[.int .i64 0, .int .i64 0, .int .i64 0, .int .i64 0]), 4, 32) := by kernel_rfl
theorem RO.new {w w' : World} {base : Nat} {v : Value} {R : List Mu} (h : RO w base v R) (hb : Below w.heap.size w w') : RO w' base v R := own_new' h hb
theorem u_four {W : World} {b : Nat} {t : TypeId} {f : Nat × Nat} {y : Mu} (h : W.heap[b]? = some (.cells #[.int .i64 y.k, .int .i64 y.i, .int .i64 y.t, .int .i64 y.v] t f)) : ∀ j u, (muCells y)[j]? = some u → W.cell? ((⟨b, 0, none⟩ : Addr).add j) = some u := by
  intro j u hu
  rw [Addr.add_lit, Nat.zero_add]
  simp only [World.cell?, h]
  simpa [muCells] using hu
theorem mu_snoc (L : List Mu) (y : Mu) : (L ++ [y]).flatMap muCells = L.flatMap muCells ++ muCells y := by simp
theorem one_drewU (w : World) (o : Obj) : Below w.heap.size w (w.alloc o).drew := (one_newU w o).drew
theorem UC.fr {w w' : World} {S : Nat → Prop} (f : Fr w w' S) {g o : Nat} {x : Mu} (h : UC w g o x) (hn : ¬ S g) : UC w' g o x := ⟨fr_cell f hn h.1, fr_cell f hn h.2.1, fr_cell f hn h.2.2.1, fr_cell f hn h.2.2.2⟩
set_option maxRecDepth 100000 in
set_option maxHeartbeats 1000000 in
theorem refU_any {w : World} {P : Nat → Prop} {ao : Option Addr} (L : List Mu) (cap : Nat) (h : UsAt w P ao L) (hl : L.length ≤ 1073741824) :
    Calls Try.prog 18 #[.slice ao L.length cap] w fun r w' => ∃ v, r = .returned v ∧ RO w' w.heap.size v L ∧ Below w.heap.size w w' := by
  obtain ⟨i0, hi, hz0, hz1, hz2⟩ := info_parts infoRMu
  have HG : Hid (UsAt w P ao L) := h
  clear h
  go_enter Try.func18, Try.ntmps18
  go_wp2
  go_loopw [3, 4] (fun u i wr => ∃ (j : Nat) (o : Option Addr) (m c : Nat), j ≤ L.length ∧ u = .slice o m c ∧ i = .int .i64 j ∧ RO wr w.heap.size (.slice o m c) (L.take j) ∧ Below w.heap.size w wr) (fun _ i _ => L.length - (intOf i).toNat)
  case atStart =>
    exact ⟨0, _, _, _, Nat.zero_le _, rfl, rfl, World.ownsRow_made w #[] 0 (Nat.le_refl _) (by decide) (by simp), (Below.refl _ w).alloc (Nat.le_refl _) _⟩
  case round =>
    obtain ⟨j, o, m, c, hj, rfl, rfl, hR, hb⟩ := hrel
    by_cases hlt : j < L.length
    · obtain ⟨b, off, rfl, hP, hc⟩ := HG.out (by omega)
      have x0 := (hc j hlt).new hb
      have HS : Hid (L.take (j + 1) = L.take j ++ [L[j]]) := List.take_succ_eq_append_getElem hlt
      have HLg : Hid ((L.take j).length = j) := by show _ = _; rw [List.length_take]; omega
      generalize L[j] = y at x0 HS
      have hbl := lt_cell x0.1
      have HBl : Hid (b < w.heap.size) := lt_cell (hc j hlt).1
      have HR : Hid _ := hR
      have HB : Hid _ := hb
      have HX : Hid _ := x0
      have x9 := fun o => UC.new x0 (one_newU wr o)
      clear hc hR hb
      unfold UC at x0 x9
      go_upto_region 5 with (fail)
      go_region_held_law (fun w' => w'.cell? ⟨b, off + j * 4, none⟩ = some (.int .i64 y.k) ∧ w'.cell? ⟨b, off + j * 4 + 1, none⟩ = some (.int .i64 y.i) ∧ w'.cell? ⟨b, off + j * 4 + 2, none⟩ = some (.int .i64 y.t) ∧ w'.cell? ⟨b, off + j * 4 + 3, none⟩ = some (.int .i64 y.v)) (first | exact x2 | exact x9 _ | exact x0)
        ((refine step_append_own rfl (.tmp 12) (.tmp 34) 42 rfl w.heap.size 45 i0 (.agg #[.int .i64 0, .int .i64 0, .int .i64 0, .int .i64 0]) 4 32 Try.underlying42 hi hz0 hz1 hz2 rfl (by decide) (.slice o m c) _ _ (by simp [Act.eval]) (own_new' HR.out (one_drewU wr _)) ⟨wr.heap.size, 0, none⟩ 1 1 (muCells y) (by simp [Act.eval]) rfl (u_four (heap_alloc_new wr _)) (muOne y) (by rw [HLg.out]; unfold maxLen; omega) (by rw [HLg.out]; omega) (by have := HB.out.size; simp; omega) ?_; intro v' w4 hown hgrow hat; have f4 : Fr (wr.alloc (.cells #[.int .i64 y.k, .int .i64 y.i, .int .i64 y.t, .int .i64 y.v] 45)).drew w4 (fun k => Value.ownBlock (.slice o m c) = some k) := ⟨hgrow.os, hgrow.tape, hgrow.output, hgrow.size, fun k hk hn => hgrow.block k hk (fun e => hn e.symm)⟩; have HH : Hid _ := f4; have HO : Hid _ := hown; have HA : Hid _ := hat; have x2 := UC.fr f4 (UC.new HX.out (one_drewU wr _)) (fun e => by have := (World.ownsRow.lt HR.out b e).1; have := HBl.out; omega); unfold UC at x2; clear hown hgrow hat f4))
      all_goals
        have hM4 : RO w4 w.heap.size v' (L.take (j + 1)) := by
          unfold RO
          rw [HS.out, mu_snoc, List.length_append]
          exact HO.out
        have hB4 : Below w.heap.size w w4 := (HB.out.trans ((one_drewU wr _).mono HB.out.size)).trans (HH.out.below (HB.out.trans ((one_drewU wr _).mono HB.out.size)).size (fun k hk => (World.ownsRow.lt HR.out k hk).1))
        obtain ⟨o', m', c', rfl⟩ := own_anyU hM4
        have HM4 : Hid _ := hM4
        have HB4 : Hid _ := hB4
        clear hM4 hB4 x0 x2 x9
        go_wp2
        go_roundw
        case rel => exact ⟨j + 1, _, _, _, by omega, rfl, by go_num, HM4.out, HB4.out⟩
        case measure => simp [intOf]; omega
    · obtain rfl : j = L.length := by omega
      rw [List.take_length] at hR
      have HR : Hid _ := hR
      have HB : Hid _ := hb
      clear hR hb
      go_wp2
      go_ret
      exact ⟨_, rfl, HR.out, HB.out⟩
end Go.Proofs.Ythnhmhjcpdomcaa
end

section
/- What the document's Check returns. -/
namespace Go.Proofs.Ythnhmhjcpdomcaa
open Go.RowKit
/-- A vertex's edges rise, and their ends are there. -/
def GoodE (G : List Vx) (L : List Ed) (n : Nat) : Prop := (∀ j (h : j < L.length), j < n → (ids G).contains L[j].t = true) ∧ ∀ j (h : j + 1 < L.length), j + 1 < n → L[j].t < L[j + 1].t
theorem good_all {G : List Vx} (H : ∀ j (h : j < G.length), GoodE G G[j].es G[j].es.length) : risesE G = true ∧ thereE G = true := by
  constructor
  · refine risesE_all (fun j hj => (riseB_iff _).2 (fun i hi => ?_))
    have := (H j hj).2 i (by rw [ends_len] at hi; exact hi) (by rw [ends_len] at hi; exact hi)
    rw [ends_get _ _ (by rw [ends_len] at hi; omega), ends_get _ _ (by rw [ends_len] at hi; exact hi)]
    exact this
  · unfold thereE
    rw [List.all_eq_true]
    intro v hv
    obtain ⟨j, hj, rfl⟩ := List.getElem_of_mem hv
    rw [List.all_eq_true]
    intro e he
    obtain ⟨i, hi, rfl⟩ := List.getElem_of_mem he
    exact (H j hj).1 i hi hi
theorem bad_there {G : List Vx} {j i : Nat} (hj : j < G.length) (hi : i < G[j].es.length) (h : (ids G).contains G[j].es[i].t = false) : thereE G = false := by
  unfold thereE
  rw [Bool.eq_false_iff]
  intro ha
  rw [List.all_eq_true] at ha
  have h1 := ha _ (List.getElem_mem hj)
  rw [List.all_eq_true] at h1
  have h2 := h1 _ (List.getElem_mem hi)
  rw [h] at h2
  cases h2
theorem bad_rise {G : List Vx} {j i : Nat} (hj : j < G.length) (hi : i + 1 < G[j].es.length) (h : ¬ G[j].es[i].t < G[j].es[i + 1].t) : risesE G = false := by
  refine risesE_at hj (rise_false (j := i) (by rw [ends_len]; exact hi) ?_)
  rw [ends_get _ _ (by omega), ends_get _ _ hi]
  exact h

set_option maxRecDepth 100000 in
set_option maxHeartbeats 2000000 in
theorem refcheck_any {w : World} {P : Nat → Prop} {ao : Option Addr} {G : List Vx} (cap : Nat) (h : VxAt w P ao G) (hl : G.length ≤ 9223372036854775807) (hok : ∀ v ∈ G, v.ok) :
    Calls Try.prog 14 #[.slice ao G.length cap] w fun r w' => r = .returned (.int .i64 (chk G)) ∧ Below w.heap.size w w' := by
  by_cases hlen : 256 < G.length
  · have HC : Hid (chk G = 30) := if_pos (Or.inl hlen)
    go_enter Try.func14, Try.ntmps14
    go_wp2
    go_ret
    exact ⟨by rw [HC.out]; rfl, Below.refl _ _⟩
  · have HV : Hid (VxAt w P ao G) := h
    have HO : Hid (∀ v ∈ G, v.ok) := hok
    clear h hok
    go_enter Try.func14, Try.ntmps14
    go_wp2
    go_loopw [3] (fun i wr => ∃ (k : Nat), 1 ≤ k ∧ k ≤ max G.length 1 ∧ i = .int .i64 k ∧ Hid (∀ j (h : j + 1 < (ids G).length), j + 1 < k → (ids G)[j] < (ids G)[j + 1]) ∧ Below w.heap.size w wr) (fun i _ => G.length - (intOf i).toNat)
    case atStart => exact ⟨1, Nat.le_refl _, by omega, rfl, fun j _ hj => absurd hj (by omega), Below.refl _ _⟩
    case round =>
      obtain ⟨k, hk1, hk, rfl, HR, hb⟩ := hrel
      by_cases hlt : k < G.length
      · obtain ⟨b, off, rfl, hP, hc⟩ := HV.out (by omega)
        obtain ⟨m, HK⟩ : ∃ m, Hid (k = m + 1) := ⟨k - 1, (by omega : k = k - 1 + 1)⟩
        have hmk : k = m + 1 := HK.out
        have hm0 : m < G.length := by omega
        obtain ⟨eo, ec, c0, _, _, _⟩ := hc m hm0
        obtain ⟨fo, fc, f0, _, _, _⟩ := hc k hlt
        have hbb := lt_cell c0
        have d0 := (hb.cell (p := ⟨b, off + m * 3, none⟩) hbb).trans c0
        have g0 := (hb.cell (p := ⟨b, off + k * 3, none⟩) hbb).trans f0
        have HM : Hid ((ids G)[m]'(by rw [ids_len]; omega) = G[m].id) := ids_get G m hm0
        have HN : Hid ((ids G)[k]'(by rw [ids_len]; omega) = G[k].id) := ids_get G k hlt
        have hm1 : IntKind.i64.wrap ((k : Int) - 1) = m := by rw [IntKind.wrap_i64]; omega
        have hm2 : wrap64 ((k : Int) - 1) = m := by unfold wrap64; omega
        clear c0 f0 hc hmk
        generalize G[m] = y at d0 HM
        generalize G[k] = z at g0 HN
        go_wp2
        go_quiet (fail)
        by_cases hr : z.id ≤ y.id
        · have HC : Hid (chk G = 30) := if_pos (Or.inr (rise_at HK.out (by rw [ids_len]; exact hlt) HM.out HN.out hr))
          go_wp2
          go_ret
          exact ⟨by rw [HC.out]; rfl, bel_drewN hb _⟩
        · go_wp2
          go_roundw
          case rel => exact ⟨k + 1, by omega, by omega, by go_num, rise_step HK.out (by rw [ids_len]; exact hlt) HM.out HN.out (by omega) HR.out, bel_drewN hb _⟩
          case measure => simp [intOf]; omega
      · have HRi : Hid (Rise (ids G)) := fun j hj => HR.out j hj (by rw [ids_len] at hj; omega)
        have HRb : Hid (riseB (ids G) = true) := (riseB_iff _).2 HRi.out
        have HC : Hid (chk G = if 2048 < sumE G ∨ risesE G = false ∨ thereE G = false then 31 else 0) := if_neg (by rw [HRb.out]; simp; omega)
        have HVr : Hid (VxAt wr P ao G) := HV.out.new hb
        have hE := refedges_any cap HVr.out hl
        by_cases hs : 2048 < sumE G
        · go_wp2_with (go_at_call 43; refine hE.mono ?_; rintro r w1 ⟨rfl, hb1⟩)
          go_ret
          exact ⟨by rw [HC.out, if_pos (Or.inl hs)]; rfl, hb.trans (hb1.mono hb.size)⟩
        · go_wp2_with (go_at_call 43; refine hE.mono ?_; rintro r w1 ⟨rfl, hb1⟩)
          have hbA : Below w.heap.size w w1 := hb.trans (hb1.mono hb.size)
          have HVA : Hid (VxAt w1 P ao G) := HVr.out.new hb1
          clear hE hb1
          go_loopw [4, 5, 6, 7, 8] (fun i _ _ _ _ wx => ∃ (j : Nat), j ≤ G.length ∧ i = .int .i64 j ∧ Hid (∀ q (h : q < G.length), q < j → GoodE G G[q].es G[q].es.length) ∧ Below w.heap.size w wx) (fun i _ _ _ _ _ => G.length - (intOf i).toNat)
          case atStart => exact ⟨0, Nat.zero_le _, rfl, fun q _ hq => absurd hq (by omega), hbA⟩
          case round =>
            obtain ⟨j, hj, rfl, HQ, hbx⟩ := hrel
            by_cases hjl : j < G.length
            · obtain ⟨b, off, rfl, hP, hc⟩ := HV.out (by omega)
              obtain ⟨eo, ec, e0, e1, e2, e3⟩ := hc j hjl
              have hbb := lt_cell e0
              have d2 := (hbx.cell (p := ⟨b, off + j * 3 + 2, none⟩) hbb).trans e2
              have HE : Hid (EdAt w P eo G[j].es) := e3
              have hel : G[j].es.length ≤ 9223372036854775807 := Nat.le_trans (HO.out _ (List.getElem_mem hjl)).len (by decide)
              have HB1 : Hid (∀ y, G[j] = y → ∀ i (h : i < y.es.length), (ids G).contains y.es[i].t = false → thereE G = false) := fun y e i hi hcn => by subst e; exact bad_there hjl hi hcn
              have HB2 : Hid (∀ y, G[j] = y → ∀ i (h : i + 1 < y.es.length), ¬ y.es[i].t < y.es[i + 1].t → risesE G = false) := fun y e i hi hcn => by subst e; exact bad_rise hjl hi hcn
              have HB3 : Hid (∀ y, G[j] = y → GoodE G y.es y.es.length → ∀ q (h : q < G.length), q < j + 1 → GoodE G G[q].es G[q].es.length) := fun y e hg q hq hqj => by
                by_cases eq : q = j
                · subst eq; rw [e]; exact hg
                · exact HQ.out q hq (by omega)
              obtain ⟨y, hy⟩ : ∃ y, G[j] = y := ⟨_, rfl⟩
              have HY : Hid (G[j] = y) := hy
              rw [hy] at d2 HE hel
              clear hy e0 e1 e2 e3 hc
              go_wp2
              go_loopw [6, 7, 8] (fun i _ _ wx => ∃ (k : Nat), k ≤ y.es.length ∧ i = .int .i64 k ∧ Hid (GoodE G y.es k) ∧ Below w.heap.size w wx) (fun i _ _ _ => y.es.length - (intOf i).toNat)
              case atStart => exact ⟨0, Nat.zero_le _, rfl, ⟨fun q _ hq => absurd hq (by omega), fun q _ hq => absurd hq (by omega)⟩, hbx⟩
              case round =>
                obtain ⟨k, hk, rfl, HD, hby⟩ := hrel
                by_cases hkl : k < y.es.length
                · obtain ⟨eb, eoff, rfl, hPe, hce⟩ := HE.out (by omega)
                  have f0 := (hby.cell (p := ⟨eb, eoff + k * 2, none⟩) (lt_cell (hce k hkl).1)).trans (hce k hkl).1
                  have hF := reffind_any cap y.es[k].t (HV.out.new hby) hl
                  have HP1 : Hid (foundB (ids G) y.es[k].t = (ids G).contains y.es[k].t) := foundB_iff HRi.out _
                  have HN : Hid (∀ z, y.es[k] = z → (ids G).contains z.t = false → thereE G = false) := fun z e hcn => HB1.out y HY.out k hkl (by rw [e]; exact hcn)
                  cases hfb : foundB (ids G) y.es[k].t with
                  | false =>
                    rw [hfb] at hF HP1
                    have HT : Hid (thereE G = false) := HB1.out y HY.out k hkl HP1.out.symm
                    clear hfb hce
                    generalize y.es[k] = z at f0 hF
                    go_wp2_with (go_at_call 35; refine hF.mono ?_; rintro r w2 ⟨rfl, hb2⟩)
                    go_quiet (fail)
                    go_wp2
                    go_ret
                    exact ⟨by rw [HC.out, if_pos (Or.inr (Or.inr HT.out))]; rfl, bel_drewN (hby.trans (hb2.mono hby.size)) _⟩
                  | true =>
                    rw [hfb] at hF HP1
                    by_cases hk0 : k = 0
                    · have HG : Hid (GoodE G y.es (k + 1)) := ⟨fun q hq hqk => by
                        obtain rfl : q = k := by omega
                        exact HP1.out.symm, fun q _ hq => absurd hq (by omega)⟩
                      have hd : decide (0 < k) = false := by rw [decide_eq_false_iff_not]; omega
                      clear hfb hce hk0
                      generalize y.es[k] = z at f0 hF
                      go_wp2_with (go_at_call 35; refine hF.mono ?_; rintro r w2 ⟨rfl, hb2⟩)
                      go_quiet (fail)
                      go_wp2
                      go_roundw
                      case rel => exact ⟨k + 1, by omega, by go_num, HG.out, bel_drewN (hby.trans (hb2.mono hby.size)) _⟩
                      case measure => simp [intOf]; omega
                    · obtain ⟨m, HK⟩ : ∃ m, Hid (k = m + 1) := ⟨k - 1, (by omega : k = k - 1 + 1)⟩
                      have hmk : k = m + 1 := HK.out
                      have hm0 : m < y.es.length := by omega
                      have g0 := (hby.cell (p := ⟨eb, eoff + m * 2, none⟩) (lt_cell (hce m hm0).1)).trans (hce m hm0).1
                      have hm1 : IntKind.i64.wrap ((k : Int) - 1) = m := by rw [IntKind.wrap_i64]; omega
                      have hm2 : wrap64 ((k : Int) - 1) = m := by unfold wrap64; omega
                      have hpos : decide (0 < k) = true := by rw [decide_eq_true_iff]; omega
                      have hebw : eb < w.heap.size := lt_cell (hce k hkl).1
                      have HG : Hid (∀ u z, y.es[m] = u → y.es[k] = z → u.t < z.t → GoodE G y.es (k + 1)) := fun u z hu hz hlt2 => ⟨fun q hq hqk => by
                        by_cases e : q = k
                        · subst e; exact HP1.out.symm
                        · exact HD.out.1 q hq (by omega), fun q hq hqk => by
                        by_cases e : q = m
                        · subst e; subst hmk; rw [hu, hz]; exact hlt2
                        · exact HD.out.2 q hq (by omega)⟩
                      have HX : Hid (∀ u z, y.es[m] = u → y.es[k] = z → ¬ u.t < z.t → risesE G = false) := fun u z hu hz hn => HB2.out y HY.out m (by omega) (by subst hmk; rw [hu, hz]; omega)
                      obtain ⟨u, hu⟩ : ∃ u, y.es[m] = u := ⟨_, rfl⟩
                      obtain ⟨z, hz⟩ : ∃ z, y.es[k] = z := ⟨_, rfl⟩
                      have HU : Hid (y.es[m] = u) := hu
                      have HZ : Hid (y.es[k] = z) := hz
                      rw [hu] at g0
                      rw [hz] at f0 hF
                      clear hfb hce hk0 hu hz hmk
                      go_wp2_with (go_at_call 35; refine hF.mono ?_; rintro r w2 ⟨rfl, hb2⟩; have f1 := (hb2.cell (p := ⟨eb, eoff + k * 2, none⟩) (Nat.lt_of_lt_of_le hebw hby.size)).trans f0; have g1 := (hb2.cell (p := ⟨eb, eoff + m * 2, none⟩) (Nat.lt_of_lt_of_le hebw hby.size)).trans g0)
                      go_quiet (fail)
                      by_cases hr : z.t ≤ u.t
                      · have HT : Hid (risesE G = false) := HX.out u z HU.out HZ.out (by omega)
                        go_wp2
                        go_ret
                        exact ⟨by rw [HC.out, if_pos (Or.inr (Or.inl HT.out))]; rfl, bel_drewN (hby.trans (hb2.mono hby.size)) _⟩
                      · go_wp2
                        go_roundw
                        case rel => exact ⟨k + 1, by omega, by go_num, HG.out u z HU.out HZ.out (by omega), bel_drewN (hby.trans (hb2.mono hby.size)) _⟩
                        case measure => simp [intOf]; omega
                · obtain rfl : k = y.es.length := by omega
                  go_wp2
                  go_roundw
                  case rel => exact ⟨j + 1, by omega, by go_num, HB3.out y HY.out HD.out, hby⟩
                  case measure => simp [intOf]; omega
            · have HT := good_all (fun q hq => HQ.out q hq (by omega))
              have HE0 : Hid (chk G = 0) := HC.out.trans (if_neg (by rw [HT.1, HT.2]; simp; omega))
              clear HT
              go_wp2
              go_ret
              exact ⟨by rw [HE0.out]; rfl, hbx⟩
theorem rise_of {G : List Vx} (h : chk G = 0) : G.length ≤ 256 ∧ Rise (ids G) := by
  unfold chk at h
  split at h
  · cases h
  · rename_i hn
    refine ⟨by omega, (riseB_iff _).1 ?_⟩
    cases hb : riseB (ids G) with
    | true => rfl
    | false => exact absurd (Or.inr hb) hn
end Go.Proofs.Ythnhmhjcpdomcaa
end
