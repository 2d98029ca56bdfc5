import Derived.Test.YthkfbaoeimjgaaaGreatGrTakeMM
import Derived.Test.YthkfbaoeimjgaaaGreatReader2M
import Derived.Test.YthkfbaoeimjgaaaGreatGrCheckM
/- What TakeVertex takes off a reader. -/
namespace Go.Proofs.YthkfbaoeimjgaaaGreat
open Go.RowKit
theorem rsg_to {w : World} {p : Nat} {s : ByteArray} {a n a' : Nat} {e e' : Int} (h : Rd w p s a e) (hs : s.size ≤ maxLen) (ha : a ≤ s.size) (hq : rdNum s a e = (n, a', e')) :
    Calls Tryz.prog 119 #[.pointer (some ⟨p, 0, none⟩)] w fun r w' => r = .returned (.int .i64 (unfoldN n)) ∧ Rd w' p s a' e' ∧ Fr w w' (fun k => k = p) := by
  have := rsigned_any h hs ha; rw [hq] at this; exact this
theorem rct_to {w : World} {p : Nat} {s : ByteArray} {a n a' : Nat} {e e' most : Int} (h : Rd w p s a e) (hs : s.size ≤ maxLen) (ha : a ≤ s.size) (hm : most ≤ 9223372036854775807) (hq : rdCount s a e most = (n, a', e')) :
    Calls Tryz.prog 56 #[.pointer (some ⟨p, 0, none⟩), .int .i64 most] w fun r w' => r = .returned (.int .i64 n) ∧ Rd w' p s a' e' ∧ Fr w w' (fun k => k = p) := by
  have := rcount_any h hs ha hm; rw [hq] at this; exact this
theorem own_kept {w w' : World} {base : Nat} {e : TypeId} {size : Nat} {v : Value} {n : Nat} {xs : List Value} {S : Nat → Prop} (h : w.ownsRow base e size v n xs) (f : Fr w w' S) (hS : ∀ k, v.ownBlock = some k → ¬ S k) : w'.ownsRow base e size v n xs := by
  refine ⟨h.1, ?_⟩
  rcases h.2 with hn | ⟨g, cap, cur, rfl, hb, hgg, rest⟩
  · exact Or.inl hn
  · exact Or.inr ⟨g, cap, cur, rfl, hb, (f.block g (lt_of_block hgg) (hS g rfl)).trans hgg, rest⟩
/-- Edges, as cells. -/
def ecs (L : List Ed) : List Value := L.flatMap fun e => [.int .i64 e.t, .int .i64 e.w]
theorem ecs_snoc (L : List Ed) (e : Ed) : ecs (L ++ [e]) = ecs L ++ [.int .i64 e.t, .int .i64 e.w] := by simp [ecs]
theorem ecs_at : ∀ (L : List Ed) (j : Nat) (h : j < L.length), (ecs L)[j * 2]? = some (.int .i64 L[j].t) ∧ (ecs L)[j * 2 + 1]? = some (.int .i64 L[j].w)
  | [], j, h => absurd h (by simp)
  | e :: L, 0, _ => ⟨rfl, rfl⟩
  | e :: L, j + 1, h => by
    have := ecs_at L j (by simpa using h)
    rw [show (j + 1) * 2 = j * 2 + 1 + 1 by omega]
    exact this
/-- A row of edges of the call's own. -/
theorem own_eds {w : World} {base : Nat} {t : TypeId} {ao : Option Addr} {n c : Nat} {L : List Ed} (h : w.ownsRow base t 2 (.slice ao n c) L.length (ecs L)) : n = L.length ∧ EdAt w (fun k => base ≤ k ∧ (Value.slice ao n c).ownBlock = some k) ao L := by
  rcases h.2 with ⟨h1, h2⟩ | ⟨g, cap, cur, h1, hb, hg, hn, hc, hcs, ht⟩
  · cases h1
    exact ⟨h2.symm, fun hl => by omega⟩
  · cases h1
    refine ⟨rfl, fun hl => ⟨g, 0, rfl, ⟨hb, rfl⟩, fun j hj => ?_⟩⟩
    have hcell : ∀ i (u : Value), (ecs L)[i]? = some u → w.cell? ⟨g, i, none⟩ = some u := fun i u hu => by
      have := h.cells (g := g) rfl i u hu
      have hadd : (⟨g, 0, none⟩ : Addr).add i = ⟨g, i, none⟩ := by unfold Addr.add; split <;> simp_all
      rw [hadd] at this
      exact this
    have := ecs_at L j hj
    rw [Nat.zero_add]
    exact ⟨hcell _ _ this.1, hcell _ _ this.2⟩
theorem infoEdge : (Tryz.prog.info? 111).map (fun i => (i.zero, i.size, i.bytes)) = some (some (.agg #[.int .i64 0, .int .i64 0]), 2, 16) := by kernel_rfl
theorem two_new {W : World} {b : Nat} {t : TypeId} {x y : Value} (h : W.heap[b]? = some (.cells #[x, y] t (0, 0))) : ∀ (j : Nat) (u : Value), [x, y][j]? = some u → W.cell? ((⟨b, 0, none⟩ : Addr).add j) = some u := by
  intro j u hu
  have hadd : (⟨b, 0, none⟩ : Addr).add j = ⟨b, j, none⟩ := by unfold Addr.add; split <;> simp_all
  rw [hadd]
  simp [World.cell?, h]
  simpa using hu
theorem set3_2 {w : World} {b : Nat} {t : TypeId} {u0 u1 u2 : Value} (h : w.heap[b]? = some (.cells #[u0, u1, u2] t (0, 0))) (u : Value) : (w.setCell ⟨b, 2, none⟩ u).heap[b]? = some (.cells #[u0, u1, u] t (0, 0)) := by
  have hlt := lt_of_block h
  have h' : w.heap[b] = .cells #[u0, u1, u2] t (0, 0) := by simpa [Array.getElem?_eq_getElem hlt] using h
  show (w.heap.modify b _)[b]? = _
  rw [Array.getElem?_eq_getElem (by simpa using hlt), Array.getElem_modify_self, h']
  rfl
theorem froz {w : World} {b o : Nat} {t : TypeId} {c : Array Value} (h : w.heap[b]? = some (.cells c t (0, 0))) : w.frozen? ⟨b, o, none⟩ = false := by simp [World.frozen?, h]
/-- Between two edges: the reader, the vertex's box, the result's box, the edges so far. -/
structure TV (w wr : World) (p bv : Nat) (s : ByteArray) (i v : Int) (sv : Value) (L : List Ed) (a : Nat) (e : Int) : Prop where
  rd : Rd wr p s a e
  fr : Fr w wr (fun k => k = p)
  vb : wr.heap[bv]? = some (.cells #[.int .i64 i, .int .i64 v, sv] 114 (0, 0))
  rb : wr.heap[w.heap.size]? = some (.cells #[.int .i64 0, .int .i64 0, .slice none 0 0] 114 (0, 0))
  own : wr.ownsRow (bv + 1) 111 2 sv L.length (ecs L)
  lt : w.heap.size < bv
  hp : p < w.heap.size
section
variable {w wr : World} {p bv : Nat} {s : ByteArray} {i v : Int} {sv : Value} {L : List Ed} {a : Nat} {e : Int}
theorem TV.step (h : TV w wr p bv s i v sv L a e) {w1 : World} {a' : Nat} {e' : Int} (f : Fr wr w1 (fun k => k = p)) (hr : Rd w1 p s a' e') : TV w w1 p bv s i v sv L a' e' := by
  have h1 := h.lt
  have h2 := h.hp
  exact ⟨hr, h.fr.trans f (fun _ _ h => h), (f.block bv (lt_of_block h.vb) (by omega)).trans h.vb, (f.block _ (lt_of_block h.rb) (by omega)).trans h.rb, own_kept h.own f (fun k hk => by have := (h.own.lt k hk).1; omega), h.lt, h.hp⟩
theorem TV.al (h : TV w wr p bv s i v sv L a e) (o : Obj) : TV w (wr.alloc o) p bv s i v sv L a e := h.step (Fr.alloc wr o _) (h.rd.kept (Fr.alloc wr o (fun _ => False)) (fun h => h))
theorem TV.app (h : TV w wr p bv s i v sv L a e) {w1 : World} {sv' : Value} {x y : Int} (ho : w1.ownsRow (bv + 1) 111 2 sv' (L.length + 1) (ecs L ++ [.int .i64 x, .int .i64 y])) (hg : wr.grownBy w1 sv.ownBlock) : TV w (w1.setCell ⟨bv, 2, none⟩ sv') p bv s i v sv' (L ++ [⟨x, y⟩]) a e := by
  have h1 := h.lt
  have h2 := h.hp
  have f1 : Fr wr w1 (fun k => sv.ownBlock = some k) := Fr.grown hg (fun k hk => hk)
  have f2 : Fr w1 (w1.setCell ⟨bv, 2, none⟩ sv') (fun k => k = bv) := Fr.setCell (S := fun k => k = bv) w1 ⟨bv, 2, none⟩ sv' rfl
  have f : Fr wr (w1.setCell ⟨bv, 2, none⟩ sv') (fun k => bv ≤ k) := (f1.mono (T := fun k => bv ≤ k) (fun k _ hk => by have := (h.own.lt k hk).1; omega)).trans f2 (fun k _ hk => Nat.le_of_eq hk.symm)
  have hvb := (f1.block bv (lt_of_block h.vb) (fun hk => by have := (h.own.lt _ hk).1; omega)).trans h.vb
  refine ⟨h.rd.kept f (by omega), h.fr.trans f (fun k hk hb => by omega), set3_2 hvb _, (f.block _ (lt_of_block h.rb) (by omega)).trans h.rb, ?_, h.lt, h.hp⟩
  rw [ecs_snoc, List.length_append]
  exact ownsRow_setCell_other ho (fun e => Nat.lt_irrefl bv (ho.lt bv e).1) _
theorem TV.grew (h : TV w wr p bv s i v sv L a e) {w1 : World} (hg : wr.grownBy w1 sv.ownBlock) : w1.cell? ⟨bv, 2, none⟩ = some sv ∧ w1.frozen? ⟨bv, 2, none⟩ = false := by
  have f1 : Fr wr w1 (fun k => sv.ownBlock = some k) := Fr.grown hg (fun k hk => hk)
  have hvb := (f1.block bv (lt_of_block h.vb) (fun hk => by have := (h.own.lt _ hk).1; omega)).trans h.vb
  exact ⟨(box3 hvb).2.2, froz hvb⟩
theorem TV.facts (h : TV w wr p bv s i v sv L a e) : wr.cell? ⟨bv, 0, none⟩ = some (.int .i64 i) ∧ wr.cell? ⟨bv, 1, none⟩ = some (.int .i64 v) ∧ wr.cell? ⟨bv, 2, none⟩ = some sv ∧ wr.frozen? ⟨bv, 2, none⟩ = false ∧ bv < wr.heap.size := by
  obtain ⟨h0, h1, h2⟩ := box3 h.vb
  exact ⟨h0, h1, h2, froz h.vb, lt_of_block h.vb⟩
theorem TV.res (h : TV w wr p bv s i v sv L a e) : wr.cell? ⟨w.heap.size, 0, none⟩ = some (.int .i64 0) ∧ wr.cell? ⟨w.heap.size, 1, none⟩ = some (.int .i64 0) ∧ wr.cell? ⟨w.heap.size, 2, none⟩ = some (.slice none 0 0) ∧ wr.frozen? ⟨w.heap.size, 0, none⟩ = false ∧ wr.frozen? ⟨w.heap.size, 1, none⟩ = false ∧ wr.frozen? ⟨w.heap.size, 2, none⟩ = false := by
  obtain ⟨h0, h1, h2⟩ := box3 h.rb
  exact ⟨h0, h1, h2, froz h.rb, froz h.rb, froz h.rb⟩
theorem TV.done {ao : Option Addr} {n c : Nat} (h : TV w wr p bv s i v (.slice ao n c) L a e) (u0 u1 u2 : Value) : n = L.length ∧ EdAt (((wr.setCell ⟨w.heap.size, 0, none⟩ u0).setCell ⟨w.heap.size, 1, none⟩ u1).setCell ⟨w.heap.size, 2, none⟩ u2) (fun k => w.heap.size ≤ k) ao L ∧
    Rd (((wr.setCell ⟨w.heap.size, 0, none⟩ u0).setCell ⟨w.heap.size, 1, none⟩ u1).setCell ⟨w.heap.size, 2, none⟩ u2) p s a e ∧ Fr w (((wr.setCell ⟨w.heap.size, 0, none⟩ u0).setCell ⟨w.heap.size, 1, none⟩ u1).setCell ⟨w.heap.size, 2, none⟩ u2) (fun k => k = p) := by
  have h1 := h.lt
  have h2 := h.hp
  have f : Fr wr (((wr.setCell ⟨w.heap.size, 0, none⟩ u0).setCell ⟨w.heap.size, 1, none⟩ u1).setCell ⟨w.heap.size, 2, none⟩ u2) (fun k => k = w.heap.size) :=
    ((Fr.setCell (S := fun k => k = w.heap.size) wr ⟨w.heap.size, 0, none⟩ u0 rfl).trans (Fr.setCell (S := fun k => k = w.heap.size) _ ⟨w.heap.size, 1, none⟩ u1 rfl) (fun _ _ h => h)).trans (Fr.setCell (S := fun k => k = w.heap.size) _ ⟨w.heap.size, 2, none⟩ u2 rfl) (fun _ _ h => h)
  obtain ⟨hn, he⟩ := own_eds h.own
  exact ⟨hn, he.kept f (fun k _ hk => ⟨by omega, by omega⟩), h.rd.kept f (by omega), h.fr.trans f (fun k hk hb => by omega)⟩
end

set_option maxRecDepth 100000 in
set_option maxHeartbeats 4000000 in
theorem takevertex_any {w : World} {p : Nat} {s : ByteArray} {a : Nat} {e : Int} (h : Rd w p s a e) (hs : s.size ≤ maxLen) (ha : a ≤ s.size) :
    Calls Tryz.prog 118 #[.pointer (some ⟨p, 0, none⟩)] w fun r w' => ∃ eo ec, r = .returned (.agg #[.int .i64 (rdV s a e).1.id, .int .i64 (rdV s a e).1.val, .slice eo (rdV s a e).1.es.length ec]) ∧ EdAt w' (fun k => w.heap.size ≤ k) eo (rdV s a e).1.es ∧ Rd w' p s (rdV s a e).2.1 (rdV s a e).2.2 ∧ Fr w w' (fun k => k = p) := by
  obtain ⟨i0, hi, hz0, hz1, hz2⟩ := info_parts infoEdge
  obtain ⟨⟨t, a1, e1⟩, h1⟩ : ∃ q, rdNum s a e = q := ⟨_, rfl⟩
  obtain ⟨⟨u, a2, e2⟩, h2⟩ : ∃ q, rdNum s a1 e1 = q := ⟨_, rfl⟩
  obtain ⟨⟨n, a3, e3⟩, h3⟩ : ∃ q, rdCount s a2 e2 2048 = q := ⟨_, rfl⟩
  have g1 := rdNum_to ha h1
  have g2 := rdNum_to g1.1 h2
  have g3 := rdCount_to (most := 2048) g2.1 h3
  have HV : Hid (rdV s a e = (⟨unfoldN t, unfoldN u, (rdEs s n a3 e3).1⟩, (rdEs s n a3 e3).2)) := by
    show _ = _
    unfold rdV; simp only [h1, h2, h3]
  have H1 : Hid _ := h1
  have H2 : Hid _ := h2
  have H3 : Hid _ := h3
  have hn := g3.2.1
  have G1 : Hid _ := g1
  have G2 : Hid _ := g2
  have G3 : Hid _ := g3
  rw [HV.out]
  have hlt := h.lt
  have HA : Hid (∀ o, Rd (w.alloc o) p s a e) := fun o => h.kept (Fr.alloc w o (fun _ => False)) (fun h => h)
  clear h1 h2 h3 g1 g2 g3 h
  go_enter Tryz.func118, Tryz.ntmps118
  go_wp2_with (first
    | (go_at_call 119; refine (rsg_to (by first | exact hr1 | exact HA.out _) hs (by first | exact ha | exact G1.out.1) (by first | exact H1.out | exact H2.out)).mono ?_; rintro r w1 ⟨rfl, hr1, hf⟩; first | (have hf2 := hf1.trans hf (fun _ _ h => h)) | (have hf1 := hf))
    | (go_at_call 56; refine (rct_to (hr1.kept (Fr.alloc w1 _ (fun _ => False)) (fun h => h)) hs G2.out.1 (by decide) H3.out).mono ?_; rintro r w3 ⟨rfl, hr3, hf3⟩))
  have hbv : w.heap.size < w1.heap.size := by have := hf2.size; simp at this; omega
  have hTV : TV w w3 p w1.heap.size s (unfoldN t) (unfoldN u) (.slice none 0 0) [] a3 e3 := by
    have hfA : Fr w w3 (fun k => k = p) := (((Fr.alloc w _ _).trans hf2 (fun _ _ h => h)).trans (Fr.alloc w1 _ _) (fun _ _ h => h)).trans hf3 (fun _ _ h => h)
    refine ⟨hr3, hfA, (hf3.block _ (by simp) (by omega)).trans (heap_alloc_new _ _), ?_, World.ownsRow_nil _ _ _ _, hbv, hlt⟩
    exact (hf3.block _ (by simp; omega) (by omega)).trans ((Below.heap_alloc w1 _ _ hbv).trans ((hf2.block _ (by simp) (by omega)).trans (heap_alloc_new _ _)))
  obtain ⟨bv, hbe⟩ : ∃ bv, w1.heap.size = bv := ⟨_, rfl⟩
  rw [hbe] at hTV ⊢
  clear hr1 hf hf1 hf2 hr3 hf3 hbv
  go_loopw [4, 12] (fun _ i wr => ∃ (j : Nat) (sv : Value) (L : List Ed) (x : Nat) (y : Int), j ≤ n ∧ i = .int .i64 j ∧ Hid (rdEs s n a3 e3 = (L ++ (rdEs s (n - j) x y).1, (rdEs s (n - j) x y).2)) ∧ Hid (x ≤ s.size ∧ L.length = j ∧ (j < n → y = 0)) ∧ TV w wr p bv s (unfoldN t) (unfoldN u) sv L x y) (fun _ i _ => n - (intOf i).toNat)
  case atStart => exact ⟨0, _, [], a3, e3, Nat.zero_le _, rfl, (by simp : rdEs s n a3 e3 = ([] ++ (rdEs s (n - 0) a3 e3).1, (rdEs s (n - 0) a3 e3).2)), ⟨G3.out.1, rfl, G3.out.2.2.2⟩, hTV⟩
  case round =>
    obtain ⟨j, sv, L, x, y, hj, rfl, HS, HX, hT⟩ := hrel
    obtain ⟨ao, m, c, rfl⟩ := own_any hT.own
    by_cases hjn : j < n
    · obtain rfl : y = 0 := HX.out.2.2 hjn
      obtain ⟨⟨t1, x1, y1⟩, q1⟩ : ∃ q, rdNum s x 0 = q := ⟨_, rfl⟩
      obtain ⟨⟨t2, x2, y2⟩, q2⟩ : ∃ q, rdNum s x1 y1 = q := ⟨_, rfl⟩
      have g1 := rdNum_to HX.out.1 q1
      have g2 := rdNum_to g1.1 q2
      have Q1 : Hid _ := q1
      have Q2 : Hid _ := q2
      have GG1 : Hid _ := g1
      have GG2 : Hid _ := g2
      by_cases hy : y2 = 0
      · subst hy
        have HN : Hid (rdEs s (n - j) x 0 = (⟨unfoldN t1, unfoldN t2⟩ :: (rdEs s (n - (j + 1)) x2 0).1, (rdEs s (n - (j + 1)) x2 0).2)) := by
          show _ = _
          rw [show n - j = (n - (j + 1)) + 1 by omega, rdEs_go q1 q2]
        clear q1 q2 g1 g2
        go_wp2_with (first
          | (go_at_call 119; refine (rsg_to (by first | exact hr1 | exact hT.rd) hs (by first | exact HX.out.1 | exact GG1.out.1) (by first | exact Q1.out | exact Q2.out)).mono ?_; rintro r w1 ⟨rfl, hr1, hf⟩; first | (have hT2 := hT1.step hf hr1; obtain ⟨b0, b1, b2, b3, b4⟩ := hT2.facts) | (have hT1 := hT.step hf hr1))
          | (go_at_call 58; refine (err_any (hT2.al _).rd).mono ?_; rintro r w3 ⟨rfl, rfl⟩)
          | (at_builtin; refine wpList_append_own_at _ rfl _ _ 112 rfl (bv + 1) 111 i0 (.agg #[.int .i64 0, .int .i64 0]) 2 16 Tryz.underlying112 hi hz0 hz1 hz2 rfl (by decide) _ _ _ rfl ((hT2.al _).al _).own ⟨w1.heap.size + 1, 0, none⟩ 1 1 [.int .i64 (unfoldN t1), .int .i64 (unfoldN t2)] rfl rfl ?c1 ?c2 ?c3 ?c4 ?c5 ?_))
        case c1 => exact two_new (by have := heap_alloc_new (w1.alloc (.cells #[.int .i64 (unfoldN t1), .int .i64 (unfoldN t2)] 111)) (.cells #[.int .i64 (unfoldN t1), .int .i64 (unfoldN t2)] 111); rw [World.size_alloc] at this; exact this)
        case c2 => intro u hu; simp at hu; rcases hu with rfl | rfl <;> rfl
        case c3 => have := HX.out.2.1; unfold maxLen; omega
        case c4 => have := HX.out.2.1; omega
        case c5 => simp; omega
        · intro v' w4 hown' hgrow _ _
          have hT4 := ((hT2.al _).al _).app hown' hgrow
          obtain ⟨k2, k3⟩ := ((hT2.al _).al _).grew hgrow
          obtain ⟨ao', m', c', rfl⟩ := own_any hown'
          have HT : Hid _ := hT4
          clear hT4 hT2 hT1 hT hown' hgrow
          go_wp2
          go_roundw
          case rel => exact ⟨j + 1, _, _, x2, 0, by omega, by go_num, (by rw [HS.out, HN.out]; simp : rdEs s n a3 e3 = ((L ++ [⟨unfoldN t1, unfoldN t2⟩]) ++ (rdEs s (n - (j + 1)) x2 0).1, (rdEs s (n - (j + 1)) x2 0).2)), ⟨GG2.out.1, by have := HX.out.2.1; simp; omega, fun _ => rfl⟩, HT.out⟩
          case measure => simp [intOf]; omega
      · have HN : Hid (rdEs s n a3 e3 = (L, x2, y2)) := by
          show _ = _
          rw [HS.out, show n - j = (n - (j + 1)) + 1 by omega, rdEs_bad q1 q2 hy]; simp
        have hy0 : (y2 == 0) = false := by rw [beq_eq_false_iff_ne]; exact hy
        clear q1 q2 g1 g2
        go_wp2_with (first
          | (go_at_call 119; refine (rsg_to (by first | exact hr1 | exact hT.rd) hs (by first | exact HX.out.1 | exact GG1.out.1) (by first | exact Q1.out | exact Q2.out)).mono ?_; rintro r w1 ⟨rfl, hr1, hf⟩; first | (have hT2 := hT1.step hf hr1; obtain ⟨b0, b1, b2, b3, b4⟩ := hT2.facts; obtain ⟨z0, z1, z2, z3, z4, z5⟩ := hT2.res; have b5 : w.heap.size < w1.heap.size := Nat.lt_trans hT2.lt b4) | (have hT1 := hT.step hf hr1))
          | (go_at_call 58; refine (err_any (hT2.al _).rd).mono ?_; rintro r w3 ⟨rfl, rfl⟩))
        obtain ⟨hm, d1, d2, d3⟩ := hT2.done (.int .i64 (unfoldN t)) (.int .i64 (unfoldN u)) (.slice ao m c)
        subst hm
        refine bodyPost_ret (v := .agg #[.int .i64 (unfoldN t), .int .i64 (unfoldN u), .slice ao L.length c]) (by simp [results, Tryz.results118, go_sem, z0, z1, z2, b5]) rfl ?_
        rw [HN.out]
        exact ⟨ao, c, rfl, d1.new (one_new _ _), d2.kept (Fr.alloc _ _ (fun _ => False)) (fun h => h), d3.trans (Fr.alloc _ _ (fun _ => False)) (fun _ _ h => h.elim)⟩
    · have HN : Hid (rdEs s n a3 e3 = (L, x, y)) := by
        show _ = _
        rw [HS.out, show n - j = 0 by omega]; simp [rdEs]
      obtain ⟨b0, b1, b2, b3, b4⟩ := hT.facts
      obtain ⟨z0, z1, z2, z3, z4, z5⟩ := hT.res
      go_wp2
      obtain ⟨hm, d1, d2, d3⟩ := hT.done (.int .i64 (unfoldN t)) (.int .i64 (unfoldN u)) (.slice ao m c)
      subst hm
      refine bodyPost_ret (v := .agg #[.int .i64 (unfoldN t), .int .i64 (unfoldN u), .slice ao L.length c]) (by simp [results, Tryz.results118, go_sem, z0, z1, z2]) rfl ?_
      rw [HN.out]
      exact ⟨ao, c, rfl, d1, d2, d3⟩
end Go.Proofs.YthkfbaoeimjgaaaGreat
