/- What TakeVertex takes off a reader. -/
import Derived.Test.YtmgjlamglhpnaaaGreatGrTakeMM
import Derived.Test.YtmgjlamglhpnaaaGreatReader2M
import Derived.Deep.RegionLaw
import Derived.BigRegion
namespace Go.Proofs.YtmgjlamglhpnaaaGreat
set_option maxRecDepth 100000
open Go.RowKit
section
theorem rsg_to {w : World} {p : Nat} {s : ByteArray} {a n a' : Nat} {e e' : Int} (h : Rd w p s a e) (hs : s.size ≤ maxLen) (ha : a ≤ s.size) (hq : rdNum s a e = (n, a', e')) :
  Calls Tryz.prog 62 #[.pointer (some ⟨p, 0, none⟩)] w fun r w' => r = .returned (.int .i64 (unfoldN n)) ∧ Rd w' p s a' e' ∧ Fr w w' (fun k => k = p) := by
 have := rsigned_any h hs ha; rw [hq] at this; exact this
theorem rct_to {w : World} {p : Nat} {s : ByteArray} {a n a' : Nat} {e e' most : Int} (h : Rd w p s a e) (hs : s.size ≤ maxLen) (ha : a ≤ s.size) (hm : most ≤ 9223372036854775807) (hq : rdCount s a e most = (n, a', e')) :
  Calls Tryz.prog 31 #[.pointer (some ⟨p, 0, none⟩), .int .i64 most] w fun r w' => r = .returned (.int .i64 n) ∧ Rd w' p s a' e' ∧ Fr w w' (fun k => k = p) := by
 have := rcount_any h hs ha hm; rw [hq] at this; exact this
theorem own_kept {w w' : World} {base : Nat} {e : TypeId} {size : Nat} {v : Value} {n : Nat} {xs : List Value} {S : Nat → Prop} (h : w.ownsRow base e size v n xs) (f : Fr w w' S) (hS : ∀ k, v.ownBlock = some k → ¬ S k) : w'.ownsRow base e size v n xs := by
 refine ⟨h.1, ?_⟩
 rcases h.2 with hn | ⟨g, cap, cur, rfl, hb, hgg, rest⟩
 ·exact Or.inl hn
 ·exact Or.inr ⟨g, cap, cur, rfl, hb, (f.block g (lt_of_block hgg) (hS g rfl)).trans hgg, rest⟩
def ecs (L : List Ed) : List Value := L.flatMap fun e => [.int .i64 e.t, .int .i64 e.w]
theorem ecs_snoc (L : List Ed) (e : Ed) : ecs (L ++ [e]) = ecs L ++ [.int .i64 e.t, .int .i64 e.w] := by simp [ecs]
theorem ecs_at : ∀ (L : List Ed) (j : Nat) (h : j < L.length), (ecs L)[j * 2]? = some (.int .i64 L[j].t) ∧ (ecs L)[j * 2 + 1]? = some (.int .i64 L[j].w)
 | [], j, h => absurd h (by simp)
 | e :: L, 0, _ => ⟨rfl, rfl⟩
 | e :: L, j + 1, h => by
  have := ecs_at L j (by simpa using h)
  rw [show (j + 1) * 2 = j * 2 + 1 + 1 by omega]
  exact this
theorem own_eds {w : World} {base : Nat} {t : TypeId} {ao : Option Addr} {n c : Nat} {L : List Ed} (h : w.ownsRow base t 2 (.slice ao n c) L.length (ecs L)) : n = L.length ∧ EdAt w (fun k => base ≤ k ∧ (Value.slice ao n c).ownBlock = some k) ao L := by
 rcases h.2 with ⟨h1, h2⟩ | ⟨g, cap, cur, h1, hb, hg, hn, hc, hcs, ht⟩
 ·cases h1
  exact ⟨h2.symm, fun hl => by omega⟩
 ·cases h1
  refine ⟨rfl, fun hl => ⟨g, 0, rfl, ⟨hb, rfl⟩, fun j hj => ?_⟩⟩
  have hcell : ∀ i (u : Value), (ecs L)[i]? = some u → w.cell? ⟨g, i, none⟩ = some u := fun i u hu => by
   have := h.cells (g := g) rfl i u hu
   have hadd : (⟨g, 0, none⟩ : Addr).add i = ⟨g, i, none⟩ := by unfold Addr.add; split <;> simp_all
   rw [hadd] at this
   exact this
  have := ecs_at L j hj
  rw [Nat.zero_add]
  exact ⟨hcell _ _ this.1, hcell _ _ this.2⟩
theorem infoEdge : (Tryz.prog.info? 62).map (fun i => (i.zero, i.size, i.bytes)) = some (some (.agg #[.int .i64 0, .int .i64 0]), 2, 16) := by kernel_rfl
theorem two_new {W : World} {b : Nat} {t : TypeId} {x y : Value} (h : W.heap[b]? = some (.cells #[x, y] t (0, 0))) : ∀ (j : Nat) (u : Value), [x, y][j]? = some u → W.cell? ((⟨b, 0, none⟩ : Addr).add j) = some u := by
 intro j u hu
 have hadd : (⟨b, 0, none⟩ : Addr).add j = ⟨b, j, none⟩ := by unfold Addr.add; split <;> simp_all
 rw [hadd]
 simp [World.cell?, h]
 simpa using hu
theorem set3_2 {w : World} {b : Nat} {t : TypeId} {u0 u1 u2 : Value} (h : w.heap[b]? = some (.cells #[u0, u1, u2] t (0, 0))) (u : Value) : (w.setCell ⟨b, 2, none⟩ u).heap[b]? = some (.cells #[u0, u1, u] t (0, 0)) := by
 have hlt := lt_of_block h
 have h' : w.heap[b] = .cells #[u0, u1, u2] t (0, 0) := by simpa [Array.getElem?_eq_getElem hlt] using h
 show (w.heap.modify b _)[b]? = _
 rw [Array.getElem?_eq_getElem (by simpa using hlt), Array.getElem_modify_self, h']
 rfl
theorem froz {w : World} {b o : Nat} {t : TypeId} {c : Array Value} (h : w.heap[b]? = some (.cells c t (0, 0))) : w.frozen? ⟨b, o, none⟩ = false := by simp [World.frozen?, h]
structure TV (w wr : World) (p bv : Nat) (s : ByteArray) (i v : Int) (sv : Value) (L : List Ed) (a : Nat) (e : Int) : Prop where
 rd : Rd wr p s a e
 fr : Fr w wr (fun k => k = p)
 vb : wr.heap[bv]? = some (.cells #[.int .i64 i, .int .i64 v, sv] 65 (0, 0))
 rb : wr.heap[w.heap.size]? = some (.cells #[.int .i64 0, .int .i64 0, .slice none 0 0] 65 (0, 0))
 own : wr.ownsRow (bv + 1) 62 2 sv L.length (ecs L)
 lt : w.heap.size < bv
 hp : p < w.heap.size
section
variable {w wr : World} {p bv : Nat} {s : ByteArray} {i v : Int} {sv : Value} {L : List Ed} {a : Nat} {e : Int}
theorem TV.step (h : TV w wr p bv s i v sv L a e) {w1 : World} {a' : Nat} {e' : Int} (f : Fr wr w1 (fun k => k = p)) (hr : Rd w1 p s a' e') : TV w w1 p bv s i v sv L a' e' := by
 have h1 := h.lt
 have h2 := h.hp
 exact ⟨hr, h.fr.trans f (fun _ _ h => h), (f.block bv (lt_of_block h.vb) (by omega)).trans h.vb, (f.block _ (lt_of_block h.rb) (by omega)).trans h.rb, own_kept h.own f (fun k hk => by have := (h.own.lt k hk).1; omega), h.lt, h.hp⟩
theorem TV.al (h : TV w wr p bv s i v sv L a e) (o : Obj) : TV w (wr.alloc o) p bv s i v sv L a e := h.step (Fr.alloc wr o _) (h.rd.kept (Fr.alloc wr o (fun _ => False)) (fun h => h))
theorem TV.app (h : TV w wr p bv s i v sv L a e) {w1 : World} {sv' : Value} {x y : Int} (ho : w1.ownsRow (bv + 1) 62 2 sv' (L.length + 1) (ecs L ++ [.int .i64 x, .int .i64 y])) (hg : wr.grownBy w1 sv.ownBlock) : TV w (w1.setCell ⟨bv, 2, none⟩ sv') p bv s i v sv' (L ++ [⟨x, y⟩]) a e := by
 have h1 := h.lt
 have h2 := h.hp
 have f1 : Fr wr w1 (fun k => sv.ownBlock = some k) := Fr.grown hg (fun k hk => hk)
 have f2 : Fr w1 (w1.setCell ⟨bv, 2, none⟩ sv') (fun k => k = bv) := Fr.setCell (S := fun k => k = bv) w1 ⟨bv, 2, none⟩ sv' rfl
 have f : Fr wr (w1.setCell ⟨bv, 2, none⟩ sv') (fun k => bv ≤ k) := (f1.mono (T := fun k => bv ≤ k) (fun k _ hk => by have := (h.own.lt k hk).1; omega)).trans f2 (fun k _ hk => Nat.le_of_eq hk.symm)
 have hvb := (f1.block bv (lt_of_block h.vb) (fun hk => by have := (h.own.lt _ hk).1; omega)).trans h.vb
 refine ⟨h.rd.kept f (by omega), h.fr.trans f (fun k hk hb => by omega), set3_2 hvb _, (f.block _ (lt_of_block h.rb) (by omega)).trans h.rb, ?_, h.lt, h.hp⟩
 rw [ecs_snoc, List.length_append]
 exact ownsRow_setCell_other ho (fun e => Nat.lt_irrefl bv (ho.lt bv e).1) _
theorem TV.grew (h : TV w wr p bv s i v sv L a e) {w1 : World} (hg : wr.grownBy w1 sv.ownBlock) : w1.cell? ⟨bv, 2, none⟩ = some sv ∧ w1.frozen? ⟨bv, 2, none⟩ = false := by
 have f1 : Fr wr w1 (fun k => sv.ownBlock = some k) := Fr.grown hg (fun k hk => hk)
 have hvb := (f1.block bv (lt_of_block h.vb) (fun hk => by have := (h.own.lt _ hk).1; omega)).trans h.vb
 exact ⟨(box3 hvb).2.2, froz hvb⟩
theorem TV.facts (h : TV w wr p bv s i v sv L a e) : wr.cell? ⟨bv, 0, none⟩ = some (.int .i64 i) ∧ wr.cell? ⟨bv, 1, none⟩ = some (.int .i64 v) ∧ wr.cell? ⟨bv, 2, none⟩ = some sv ∧ wr.frozen? ⟨bv, 2, none⟩ = false ∧ bv < wr.heap.size := by
 obtain ⟨h0, h1, h2⟩ := box3 h.vb
 exact ⟨h0, h1, h2, froz h.vb, lt_of_block h.vb⟩
theorem TV.res (h : TV w wr p bv s i v sv L a e) : wr.cell? ⟨w.heap.size, 0, none⟩ = some (.int .i64 0) ∧ wr.cell? ⟨w.heap.size, 1, none⟩ = some (.int .i64 0) ∧ wr.cell? ⟨w.heap.size, 2, none⟩ = some (.slice none 0 0) ∧ wr.frozen? ⟨w.heap.size, 0, none⟩ = false ∧ wr.frozen? ⟨w.heap.size, 1, none⟩ = false ∧ wr.frozen? ⟨w.heap.size, 2, none⟩ = false := by
 obtain ⟨h0, h1, h2⟩ := box3 h.rb
 exact ⟨h0, h1, h2, froz h.rb, froz h.rb, froz h.rb⟩
theorem TV.done {ao : Option Addr} {n c : Nat} (h : TV w wr p bv s i v (.slice ao n c) L a e) (u0 u1 u2 : Value) : n = L.length ∧ EdAt (((wr.setCell ⟨w.heap.size, 0, none⟩ u0).setCell ⟨w.heap.size, 1, none⟩ u1).setCell ⟨w.heap.size, 2, none⟩ u2) (fun k => w.heap.size ≤ k) ao L ∧
  Rd (((wr.setCell ⟨w.heap.size, 0, none⟩ u0).setCell ⟨w.heap.size, 1, none⟩ u1).setCell ⟨w.heap.size, 2, none⟩ u2) p s a e ∧ Fr w (((wr.setCell ⟨w.heap.size, 0, none⟩ u0).setCell ⟨w.heap.size, 1, none⟩ u1).setCell ⟨w.heap.size, 2, none⟩ u2) (fun k => k = p) := by
 have h1 := h.lt
 have h2 := h.hp
 have f : Fr wr (((wr.setCell ⟨w.heap.size, 0, none⟩ u0).setCell ⟨w.heap.size, 1, none⟩ u1).setCell ⟨w.heap.size, 2, none⟩ u2) (fun k => k = w.heap.size) :=
  ((Fr.setCell (S := fun k => k = w.heap.size) wr ⟨w.heap.size, 0, none⟩ u0 rfl).trans (Fr.setCell (S := fun k => k = w.heap.size) _ ⟨w.heap.size, 1, none⟩ u1 rfl) (fun _ _ h => h)).trans (Fr.setCell (S := fun k => k = w.heap.size) _ ⟨w.heap.size, 2, none⟩ u2 rfl) (fun _ _ h => h)
 obtain ⟨hn, he⟩ := own_eds h.own
 exact ⟨hn, he.kept f (fun k _ hk => ⟨by omega, by omega⟩), h.rd.kept f (by omega), h.fr.trans f (fun k hk hb => by omega)⟩
end
set_option maxHeartbeats 4000000 in
theorem takevertex_any {w : World} {p : Nat} {s : ByteArray} {a : Nat} {e : Int} (h : Rd w p s a e) (hs : s.size ≤ maxLen) (ha : a ≤ s.size) :
  Calls Tryz.prog 61 #[.pointer (some ⟨p, 0, none⟩)] w fun r w' => ∃ eo ec, r = .returned (.agg #[.int .i64 (rdV s a e).1.id, .int .i64 (rdV s a e).1.val, .slice eo (rdV s a e).1.es.length ec]) ∧ EdAt w' (fun k => w.heap.size ≤ k) eo (rdV s a e).1.es ∧ Rd w' p s (rdV s a e).2.1 (rdV s a e).2.2 ∧ Fr w w' (fun k => k = p) := by
 obtain ⟨i0, hi, hz0, hz1, hz2⟩ := info_parts infoEdge
 obtain ⟨⟨t, a1, e1⟩, h1⟩ : ∃ q, rdNum s a e = q := ⟨_, rfl⟩
 obtain ⟨⟨u, a2, e2⟩, h2⟩ : ∃ q, rdNum s a1 e1 = q := ⟨_, rfl⟩
 obtain ⟨⟨n, a3, e3⟩, h3⟩ : ∃ q, rdCount s a2 e2 2048 = q := ⟨_, rfl⟩
 have g1 := rdNum_to ha h1
 have g2 := rdNum_to g1.1 h2
 have g3 := rdCount_to (most := 2048) g2.1 h3
 have HV : Hid (rdV s a e = (⟨unfoldN t, unfoldN u, (rdEs s n a3 e3).1⟩, (rdEs s n a3 e3).2)) := by
  show _ = _
  unfold rdV; simp only [h1, h2, h3]
 have H1 : Hid _ := h1
 have H2 : Hid _ := h2
 have H3 : Hid _ := h3
 have hn := g3.2.1
 have G1 : Hid _ := g1
 have G2 : Hid _ := g2
 have G3 : Hid _ := g3
 rw [HV.out]
 have hlt := h.lt
 have HA : Hid (∀ o, Rd (w.alloc o) p s a e) := fun o => h.kept (Fr.alloc w o (fun _ => False)) (fun h => h)
 clear h1 h2 h3 g1 g2 g3 h
 go_enter Tryz.func61, Tryz.ntmps61
 go_wp2_with (first
  | (go_at_call 62; refine (rsg_to (by first | exact hr1 | exact HA.out _) hs (by first | exact ha | exact G1.out.1) (by first | exact H1.out | exact H2.out)).mono ?_; rintro r w1 ⟨rfl, hr1, hf⟩; first | (have hf2 := hf1.trans hf (fun _ _ h => h)) | (have hf1 := hf))
  | (go_at_call 31; refine (rct_to (hr1.kept (Fr.alloc w1 _ (fun _ => False)) (fun h => h)) hs G2.out.1 (by decide) H3.out).mono ?_; rintro r w3 ⟨rfl, hr3, hf3⟩))
 have hbv : w.heap.size < w1.heap.size := by have := hf2.size; simp at this; omega
 have hTV : TV w w3 p w1.heap.size s (unfoldN t) (unfoldN u) (.slice none 0 0) [] a3 e3 := by
  have hfA : Fr w w3 (fun k => k = p) := (((Fr.alloc w _ _).trans hf2 (fun _ _ h => h)).trans (Fr.alloc w1 _ _) (fun _ _ h => h)).trans hf3 (fun _ _ h => h)
  refine ⟨hr3, hfA, (hf3.block _ (by simp) (by omega)).trans (heap_alloc_new _ _), ?_, World.ownsRow_nil _ _ _ _, hbv, hlt⟩
  exact (hf3.block _ (by simp; omega) (by omega)).trans ((Below.heap_alloc w1 _ _ hbv).trans ((hf2.block _ (by simp) (by omega)).trans (heap_alloc_new _ _)))
 obtain ⟨bv, hbe⟩ : ∃ bv, w1.heap.size = bv := ⟨_, rfl⟩
 rw [hbe] at hTV ⊢
 clear hr1 hf hf1 hf2 hr3 hf3 hbv
 go_loopw [4, 12] (fun _ i wr => ∃ (j : Nat) (sv : Value) (L : List Ed) (x : Nat) (y : Int), j ≤ n ∧ i = .int .i64 j ∧ Hid (rdEs s n a3 e3 = (L ++ (rdEs s (n - j) x y).1, (rdEs s (n - j) x y).2)) ∧ Hid (x ≤ s.size ∧ L.length = j ∧ (j < n → y = 0)) ∧ TV w wr p bv s (unfoldN t) (unfoldN u) sv L x y) (fun _ i _ => n - (intOf i).toNat)
 case atStart => exact ⟨0, _, [], a3, e3, Nat.zero_le _, rfl, (by simp : rdEs s n a3 e3 = ([] ++ (rdEs s (n - 0) a3 e3).1, (rdEs s (n - 0) a3 e3).2)), ⟨G3.out.1, rfl, G3.out.2.2.2⟩, hTV⟩
 case round =>
  obtain ⟨j, sv, L, x, y, hj, rfl, HS, HX, hT⟩ := hrel
  obtain ⟨ao, m, c, rfl⟩ := own_any hT.own
  by_cases hjn : j < n
  ·obtain rfl : y = 0 := HX.out.2.2 hjn
   obtain ⟨⟨t1, x1, y1⟩, q1⟩ : ∃ q, rdNum s x 0 = q := ⟨_, rfl⟩
   obtain ⟨⟨t2, x2, y2⟩, q2⟩ : ∃ q, rdNum s x1 y1 = q := ⟨_, rfl⟩
   have g1 := rdNum_to HX.out.1 q1
   have g2 := rdNum_to g1.1 q2
   have Q1 : Hid _ := q1
   have Q2 : Hid _ := q2
   have GG1 : Hid _ := g1
   have GG2 : Hid _ := g2
   by_cases hy : y2 = 0
   ·subst hy
    have HN : Hid (rdEs s (n - j) x 0 = (⟨unfoldN t1, unfoldN t2⟩ :: (rdEs s (n - (j + 1)) x2 0).1, (rdEs s (n - (j + 1)) x2 0).2)) := by
     show _ = _
     rw [show n - j = (n - (j + 1)) + 1 by omega, rdEs_go q1 q2]
    clear q1 q2 g1 g2
    go_wp2_with (first
     | (go_at_call 62; refine (rsg_to (by first | exact hr1 | exact hT.rd) hs (by first | exact HX.out.1 | exact GG1.out.1) (by first | exact Q1.out | exact Q2.out)).mono ?_; rintro r w1 ⟨rfl, hr1, hf⟩; first | (have hT2 := hT1.step hf hr1; obtain ⟨b0, b1, b2, b3, b4⟩ := hT2.facts) | (have hT1 := hT.step hf hr1))
     | (go_at_call 33; refine (err_any (hT2.al _).rd).mono ?_; rintro r w3 ⟨rfl, rfl⟩)
     | (at_builtin; refine wpList_append_own_at _ rfl _ _ 63 rfl (bv + 1) 62 i0 (.agg #[.int .i64 0, .int .i64 0]) 2 16 Tryz.underlying63 hi hz0 hz1 hz2 rfl (by decide) _ _ _ rfl ((hT2.al _).al _).own ⟨w1.heap.size + 1, 0, none⟩ 1 1 [.int .i64 (unfoldN t1), .int .i64 (unfoldN t2)] rfl rfl ?c1 ?c2 ?c3 ?c4 ?c5 ?_))
    case c1 => exact two_new (by have := heap_alloc_new (w1.alloc (.cells #[.int .i64 (unfoldN t1), .int .i64 (unfoldN t2)] 62)) (.cells #[.int .i64 (unfoldN t1), .int .i64 (unfoldN t2)] 62); rw [World.size_alloc] at this; exact this)
    case c2 => intro u hu; simp at hu; rcases hu with rfl | rfl <;> rfl
    case c3 => have := HX.out.2.1; unfold maxLen; omega
    case c4 => have := HX.out.2.1; omega
    case c5 => simp; omega
    ·intro v' w4 hown' hgrow _ _
     have hT4 := ((hT2.al _).al _).app hown' hgrow
     obtain ⟨k2, k3⟩ := ((hT2.al _).al _).grew hgrow
     obtain ⟨ao', m', c', rfl⟩ := own_any hown'
     have HT : Hid _ := hT4
     clear hT4 hT2 hT1 hT hown' hgrow
     go_wp2
     go_roundw
     case rel => exact ⟨j + 1, _, _, x2, 0, by omega, by go_num, (by rw [HS.out, HN.out]; simp : rdEs s n a3 e3 = ((L ++ [⟨unfoldN t1, unfoldN t2⟩]) ++ (rdEs s (n - (j + 1)) x2 0).1, (rdEs s (n - (j + 1)) x2 0).2)), ⟨GG2.out.1, by have := HX.out.2.1; simp; omega, fun _ => rfl⟩, HT.out⟩
     case measure => simp [intOf]; omega
   ·have HN : Hid (rdEs s n a3 e3 = (L, x2, y2)) := by
     show _ = _
     rw [HS.out, show n - j = (n - (j + 1)) + 1 by omega, rdEs_bad q1 q2 hy]; simp
    have hy0 : (y2 == 0) = false := by rw [beq_eq_false_iff_ne]; exact hy
    clear q1 q2 g1 g2
    go_wp2_with (first
     | (go_at_call 62; refine (rsg_to (by first | exact hr1 | exact hT.rd) hs (by first | exact HX.out.1 | exact GG1.out.1) (by first | exact Q1.out | exact Q2.out)).mono ?_; rintro r w1 ⟨rfl, hr1, hf⟩; first | (have hT2 := hT1.step hf hr1; obtain ⟨b0, b1, b2, b3, b4⟩ := hT2.facts; obtain ⟨z0, z1, z2, z3, z4, z5⟩ := hT2.res; have b5 : w.heap.size < w1.heap.size := Nat.lt_trans hT2.lt b4) | (have hT1 := hT.step hf hr1))
     | (go_at_call 33; refine (err_any (hT2.al _).rd).mono ?_; rintro r w3 ⟨rfl, rfl⟩))
    obtain ⟨hm, d1, d2, d3⟩ := hT2.done (.int .i64 (unfoldN t)) (.int .i64 (unfoldN u)) (.slice ao m c)
    subst hm
    refine bodyPost_ret (v := .agg #[.int .i64 (unfoldN t), .int .i64 (unfoldN u), .slice ao L.length c]) (by simp [results, Tryz.results61, go_sem, z0, z1, z2, b5]) rfl ?_
    rw [HN.out]
    exact ⟨ao, c, rfl, d1.new (one_new _ _), d2.kept (Fr.alloc _ _ (fun _ => False)) (fun h => h), d3.trans (Fr.alloc _ _ (fun _ => False)) (fun _ _ h => h.elim)⟩
  ·have HN : Hid (rdEs s n a3 e3 = (L, x, y)) := by
    show _ = _
    rw [HS.out, show n - j = 0 by omega]; simp [rdEs]
   obtain ⟨b0, b1, b2, b3, b4⟩ := hT.facts
   obtain ⟨z0, z1, z2, z3, z4, z5⟩ := hT.res
   go_wp2
   obtain ⟨hm, d1, d2, d3⟩ := hT.done (.int .i64 (unfoldN t)) (.int .i64 (unfoldN u)) (.slice ao m c)
   subst hm
   refine bodyPost_ret (v := .agg #[.int .i64 (unfoldN t), .int .i64 (unfoldN u), .slice ao L.length c]) (by simp [results, Tryz.results61, go_sem, z0, z1, z2]) rfl ?_
   rw [HN.out]
   exact ⟨ao, c, rfl, d1, d2, d3⟩
end
section
def vcs : List Vx → List (Option Addr × Nat) → List Value
 | v :: G, m :: M => .int .i64 v.id :: .int .i64 v.val :: .slice m.1 v.es.length m.2 :: vcs G M
 | _, _ => []
theorem vcs_snoc : ∀ (G : List Vx) (M : List (Option Addr × Nat)) (v : Vx) (m : Option Addr × Nat), G.length = M.length → vcs (G ++ [v]) (M ++ [m]) = vcs G M ++ [.int .i64 v.id, .int .i64 v.val, .slice m.1 v.es.length m.2]
 | [], [], v, m, _ => rfl
 | [], _ :: _, _, _, h => by simp at h
 | _ :: _, [], _, _, h => by simp at h
 | g :: G, k :: M, v, m, h => by
  have := vcs_snoc G M v m (by simpa using h)
  simp only [List.cons_append, vcs, this]
theorem vcs_at : ∀ (G : List Vx) (M : List (Option Addr × Nat)) (j : Nat) (h : j < G.length) (h' : j < M.length), (vcs G M)[j * 3]? = some (.int .i64 G[j].id) ∧ (vcs G M)[j * 3 + 1]? = some (.int .i64 G[j].val) ∧ (vcs G M)[j * 3 + 2]? = some (.slice M[j].1 G[j].es.length M[j].2)
 | [], _, j, h, _ => absurd h (by simp)
 | _ :: _, [], j, _, h => absurd h (by simp)
 | v :: G, m :: M, 0, _, _ => ⟨rfl, rfl, rfl⟩
 | v :: G, m :: M, j + 1, h, h' => by
  have := vcs_at G M j (by simpa using h) (by simpa using h')
  rw [show (j + 1) * 3 = j * 3 + 1 + 1 + 1 by omega]
  exact this
structure VRow (w : World) (base : Nat) (t : TypeId) (sv : Value) (G : List Vx) : Prop where
 row : ∃ M : List (Option Addr × Nat), G.length = M.length ∧ w.ownsRow base t 3 sv G.length (vcs G M) ∧ ∀ j (h : j < G.length) (h' : j < M.length), EdAt w (fun k => base ≤ k ∧ sv.ownBlock ≠ some k) M[j].1 G[j].es
theorem VRow.nil (w : World) (base : Nat) (t : TypeId) : VRow w base t (.slice none 0 0) [] := ⟨[], rfl, World.ownsRow_nil _ _ _ _, fun j h => absurd h (by simp)⟩
section
variable {w : World} {base : Nat} {t : TypeId} {sv : Value} {G : List Vx}
theorem VRow.any (h : VRow w base t sv G) : ∃ ao m c, sv = .slice ao m c := by
 obtain ⟨M, _, ho, _⟩ := h.row
 exact own_any ho
theorem VRow.lt (h : VRow w base t sv G) : ∀ k, sv.ownBlock = some k → base ≤ k ∧ k < w.heap.size := by
 obtain ⟨M, _, ho, _⟩ := h.row
 exact ho.lt
theorem VRow.kept (h : VRow w base t sv G) {w' : World} {S : Nat → Prop} (f : Fr w w' S) (hS : ∀ k, base ≤ k → ¬ S k) : VRow w' base t sv G := by
 obtain ⟨M, hl, ho, he⟩ := h.row
 exact ⟨M, hl, own_kept ho f (fun k hk => hS k (ho.lt k hk).1), fun j h h' => (he j h h').kept f (fun k _ hk => ⟨hS k hk.1, hk⟩)⟩
theorem VRow.at_ {ao : Option Addr} {m c : Nat} (h : VRow w base t (.slice ao m c) G) : m = G.length ∧ VxAt w (fun k => base ≤ k) ao G := by
 obtain ⟨M, hl, ho, he⟩ := h.row
 rcases ho.2 with ⟨h1, h2⟩ | ⟨g, cap, cur, h1, hb, hg, hn, hc, hcs, ht⟩
 ·cases h1
  exact ⟨h2.symm, fun hl => by omega⟩
 ·cases h1
  refine ⟨rfl, fun hl' => ⟨g, 0, rfl, hb, fun j hj => ?_⟩⟩
  have hcell : ∀ i (u : Value), (vcs G M)[i]? = some u → w.cell? ⟨g, i, none⟩ = some u := fun i u hu => by
   have := ho.cells (g := g) rfl i u hu
   have hadd : (⟨g, 0, none⟩ : Addr).add i = ⟨g, i, none⟩ := by unfold Addr.add; split <;> simp_all
   rw [hadd] at this
   exact this
  have := vcs_at G M j hj (by omega)
  rw [Nat.zero_add]
  exact ⟨_, _, hcell _ _ this.1, hcell _ _ this.2.1, hcell _ _ this.2.2, (he j hj (by omega)).mono (fun k _ hk => hk.1)⟩
theorem VRow.app (h : VRow w base t sv G) {v : Vx} {eo : Option Addr} {ec : Nat} (hE : EdAt w (fun k => base ≤ k ∧ sv.ownBlock ≠ some k) eo v.es) : ∃ M, w.ownsRow base t 3 sv G.length (vcs G M) ∧
  ∀ (w1 : World) (sv' : Value), w1.ownsRow base t 3 sv' (G.length + 1) (vcs G M ++ [.int .i64 v.id, .int .i64 v.val, .slice eo v.es.length ec]) → w.grownBy w1 sv.ownBlock → (sv'.ownBlock = sv.ownBlock ∨ sv'.ownBlock = some w.heap.size) → VRow w1 base t sv' (G ++ [v]) := by
 obtain ⟨M, hl, ho, he⟩ := h.row
 refine ⟨M, ho, fun w1 sv' ho' hg hat => ⟨M ++ [(eo, ec)], by simp [hl], by rw [vcs_snoc G M v (eo, ec) hl, List.length_append]; exact ho', fun j h1 h2 => ?_⟩⟩
 have f : Fr w w1 (fun k => sv.ownBlock = some k) := Fr.grown hg (fun k hk => hk)
 have hS : ∀ k, k < w.heap.size → base ≤ k ∧ sv.ownBlock ≠ some k → ¬ sv.ownBlock = some k ∧ (base ≤ k ∧ sv'.ownBlock ≠ some k) := fun k hk hp => ⟨hp.2, hp.1, fun e => by
  rcases hat with e' | e'
  ·rw [e'] at e; exact hp.2 e
  ·rw [e'] at e; cases e; omega⟩
 by_cases hj : j < G.length
 ·have := (he j hj (by omega)).kept f hS
  rw [List.getElem_append_left (by omega), List.getElem_append_left hj]
  exact this
 ·obtain rfl : j = G.length := by simp at h1; omega
  have := hE.kept f hS
  rw [List.getElem_append_right (by omega), List.getElem_append_right (by omega)]
  simpa [hl] using this
end
theorem infoVx : (Tryz.prog.info? 65).map (fun i => (i.zero, i.size, i.bytes)) = some (some (.agg #[.int .i64 0, .int .i64 0, .slice none 0 0]), 3, 40) := by kernel_rfl
theorem three_new {W : World} {b : Nat} {t : TypeId} {x y z : Value} (h : W.heap[b]? = some (.cells #[x, y, z] t (0, 0))) : ∀ (j : Nat) (u : Value), [x, y, z][j]? = some u → W.cell? ((⟨b, 0, none⟩ : Addr).add j) = some u := by
 intro j u hu
 have hadd : (⟨b, 0, none⟩ : Addr).add j = ⟨b, j, none⟩ := by unfold Addr.add; split <;> simp_all
 rw [hadd]
 simp [World.cell?, h]
 simpa using hu
end
section
theorem step_append_own {P : Program} {ops : Array Oper} {o : Oper} {a : Act} {w : World} {K : Act → World → Prop} {Q : Exit → Act → World → Prop} {E : Prop}
  (hg : o.guard = none) (s x : Operand) (t : TypeId) (hop : o.op = .call { callee := .builtin .append, args := #[s, x], argTypes := #[t, t] })
  (base : Nat) (e : TypeId) (i : TypeInfo) (z : Value) (size bytes : Nat) (ht : P.underlying t = some (.slice e)) (hi : P.info? e = some i) (hz : i.zero = some z)
  (hsize : i.size = size) (hby : i.bytes = bytes) (hzs : z.cells.size = size) (hsz : 0 < size)
  (v : Value) (n : Nat) (xs : List Value) (hs : a.eval s = v) (hown : w.ownsRow base e size v n xs)
  (ad : Addr) (m c : Nat) (news : List Value) (hx : a.eval x = .slice (some ad) m c) (hl : news.length = m * size) (hnews : ∀ j u, news[j]? = some u → w.cell? (ad.add j) = some u) (h1 : ∀ u ∈ news, u.oneCell' = true)
  (h63 : n + m ≤ maxLen) (hbytes : (n + m) * bytes ≤ 140737488355328) (hbase : base ≤ w.heap.size)
  (h : ∀ v' w', w'.ownsRow base e size v' (n + m) (xs ++ news) → w.grownBy w' v.ownBlock → (v'.ownBlock = v.ownBlock ∨ v'.ownBlock = some w.heap.size) → K (a.put o.dst v') w') :
  if Region.wanted o (yielded ops a.tmps) = true then Oper.wp P o a w K Q else E := by
 have hw : Region.wanted o (yielded ops a.tmps) = true := by simp [Region.wanted, hg]
 rw [if_pos hw]
 obtain ⟨v', w', hr, h2, h3, _, h5⟩ := run_append_own_at (P := P) w base t o.type e i z size bytes ht hi hz hsize hby hzs hsz v n xs hown ad m c news hl hnews h1 h63 hbytes hbase
 unfold Oper.wp execOp
 simp only [hop, resolve, invoke, builtin, Sem.run_bind, Sem.run_pure, Result.andThen_ok, List.map_toArray, List.map_cons, List.map_nil, hs, hx, hr]
 exact h v' w' h2 h3 h5
theorem own_new {w w' : World} {base : Nat} {e : TypeId} {size : Nat} {v : Value} {n : Nat} {xs : List Value} (h : w.ownsRow base e size v n xs) (hb : Below w.heap.size w w') : w'.ownsRow base e size v n xs := by
 refine ⟨h.1, ?_⟩
 rcases h.2 with hn | ⟨g, cap, cur, rfl, hbs, hgg, rest⟩
 ·exact Or.inl hn
 ·exact Or.inr ⟨g, cap, cur, rfl, hbs, (hb.block g (lt_of_block hgg)).trans hgg, rest⟩
theorem VRow.new {w w' : World} {base : Nat} {t : TypeId} {sv : Value} {G : List Vx} (h : VRow w base t sv G) (hb : Below w.heap.size w w') : VRow w' base t sv G := by
 obtain ⟨M, hl, ho, he⟩ := h.row
 exact ⟨M, hl, own_new ho hb, fun j h h' => (he j h h').new hb⟩
theorem infoREdge : (Tryz.prog.info? 108).map (fun i => (i.zero, i.size, i.bytes)) = some (some (.agg #[.int .i64 0, .int .i64 0]), 2, 16) := by kernel_rfl
theorem infoRVx : (Tryz.prog.info? 105).map (fun i => (i.zero, i.size, i.bytes)) = some (some (.agg #[.int .i64 0, .int .i64 0, .slice none 0 0]), 3, 40) := by kernel_rfl
theorem own_empty {w : World} {base : Nat} {t : TypeId} {size : Nat} (hb : base ≤ w.heap.size) : (w.alloc (.cells #[] t)).ownsRow base t size (.slice (some ⟨w.heap.size, 0, none⟩) 0 0) 0 [] := World.ownsRow_made w #[] 0 hb (by decide) (by simp)
theorem VRow.empty {w : World} {base : Nat} {t : TypeId} (hb : base ≤ w.heap.size) : VRow (w.alloc (.cells #[] t)) base t (.slice (some ⟨w.heap.size, 0, none⟩) 0 0) [] := ⟨[], rfl, own_empty hb, fun j h => absurd h (by simp)⟩
structure RI (wo wx : World) (bv bx : Nat) (y : Vx) (eo : Option Addr) (ec : Nat) (ev : Value) (L : List Ed) : Prop where
 low : Below wo.heap.size wo wx
 vb : wx.heap[bv]? = some (.cells #[.int .i64 y.id, .int .i64 y.val, .slice eo y.es.length ec] 65 (0, 0))
 xb : wx.heap[bx]? = some (.cells #[.int .i64 y.id, .int .i64 y.val, ev] 105 (0, 0))
 own : wx.ownsRow (bx + 1) 108 2 ev L.length (ecs L)
 h1 : wo.heap.size ≤ bv
 h2 : bv < bx
section
variable {wo wx : World} {bv bx : Nat} {y : Vx} {eo : Option Addr} {ec : Nat} {ev : Value} {L : List Ed}
theorem RI.new (h : RI wo wx bv bx y eo ec ev L) {w1 : World} (hb : Below wx.heap.size wx w1) : RI wo w1 bv bx y eo ec ev L :=
 ⟨h.low.trans (hb.mono h.low.size), (hb.block _ (lt_of_block h.vb)).trans h.vb, (hb.block _ (lt_of_block h.xb)).trans h.xb, own_new h.own hb, h.h1, h.h2⟩
theorem RI.app (h : RI wo wx bv bx y eo ec ev L) {w1 : World} {ev' : Value} {x z : Int} (ho : w1.ownsRow (bx + 1) 108 2 ev' (L.length + 1) (ecs L ++ [.int .i64 x, .int .i64 z])) (hg : wx.grownBy w1 ev.ownBlock) : RI wo (w1.setCell ⟨bx, 2, none⟩ ev') bv bx y eo ec ev' (L ++ [⟨x, z⟩]) := by
 have h1 := h.h1
 have h2 := h.h2
 have f1 : Fr wx w1 (fun k => ev.ownBlock = some k) := Fr.grown hg (fun k hk => hk)
 have f2 : Fr w1 (w1.setCell ⟨bx, 2, none⟩ ev') (fun k => k = bx) := Fr.setCell (S := fun k => k = bx) w1 ⟨bx, 2, none⟩ ev' rfl
 have f : Fr wx (w1.setCell ⟨bx, 2, none⟩ ev') (fun k => bx ≤ k) := (f1.mono (T := fun k => bx ≤ k) (fun k _ hk => by have := (h.own.lt k hk).1; omega)).trans f2 (fun k _ hk => Nat.le_of_eq hk.symm)
 have hxb := (f1.block bx (lt_of_block h.xb) (fun hk => by have := (h.own.lt _ hk).1; omega)).trans h.xb
 refine ⟨h.low.trans (f.below (B := wo.heap.size) h.low.size (fun k hk => by omega)), (f.block bv (lt_of_block h.vb) (by omega)).trans h.vb, set3_2 hxb _, ?_, h.h1, h.h2⟩
 rw [ecs_snoc, List.length_append]
 exact ownsRow_setCell_other ho (fun e => Nat.lt_irrefl bx (ho.lt bx e).1) _
theorem RI.grew (h : RI wo wx bv bx y eo ec ev L) {w1 : World} (hg : wx.grownBy w1 ev.ownBlock) : w1.cell? ⟨bx, 2, none⟩ = some ev ∧ w1.frozen? ⟨bx, 2, none⟩ = false := by
 have f1 : Fr wx w1 (fun k => ev.ownBlock = some k) := Fr.grown hg (fun k hk => hk)
 have hxb := (f1.block bx (lt_of_block h.xb) (fun hk => by have := (h.own.lt _ hk).1; omega)).trans h.xb
 exact ⟨(box3 hxb).2.2, froz hxb⟩
theorem RI.facts (h : RI wo wx bv bx y eo ec ev L) : wx.cell? ⟨bv, 0, none⟩ = some (.int .i64 y.id) ∧ wx.cell? ⟨bv, 1, none⟩ = some (.int .i64 y.val) ∧ wx.cell? ⟨bv, 2, none⟩ = some (.slice eo y.es.length ec) ∧ wx.cell? ⟨bx, 0, none⟩ = some (.int .i64 y.id) ∧ wx.cell? ⟨bx, 1, none⟩ = some (.int .i64 y.val) ∧ wx.cell? ⟨bx, 2, none⟩ = some ev ∧ wx.frozen? ⟨bx, 2, none⟩ = false ∧ bv < wx.heap.size ∧ bx < wx.heap.size := by
 obtain ⟨a0, a1, a2⟩ := box3 h.vb
 obtain ⟨b0, b1, b2⟩ := box3 h.xb
 exact ⟨a0, a1, a2, b0, b1, b2, froz h.xb, lt_of_block h.vb, lt_of_block h.xb⟩
end
set_option maxHeartbeats 16000000 in
theorem ref_any {w : World} {P : Nat → Prop} {ao : Option Addr} (G : List Vx) (cap : Nat) (hG : VxAt w P ao G) (hok : ∀ v ∈ G, v.ok) (hl : G.length * 40 ≤ 140737488355328) :
  Calls Tryz.prog 21 #[.agg #[.slice ao G.length cap]] w fun r w' => ∃ bo c, r = .returned (.slice bo G.length c) ∧ VxAt w' (fun k => w.heap.size ≤ k) bo G ∧ Below w.heap.size w w' := by
 obtain ⟨i0, hi, hz0, hz1, hz2⟩ := info_parts infoREdge
 obtain ⟨i1, hj1, hy0, hy1, hy2⟩ := info_parts infoRVx
 have HG : Hid (VxAt w P ao G) := hG
 clear hG
 go_enter Tryz.func21, Tryz.ntmps21
 go_wp2
 go_loopw [3, 4, 5, 6, 7] (fun u i _ _ _ wr => ∃ (j : Nat), j ≤ G.length ∧ i = .int .i64 j ∧ VRow wr (w.heap.size + 1) 105 u (G.take j) ∧ wr.heap[w.heap.size]? = some (.cells #[.slice ao G.length cap] 24 (0, 0)) ∧ Below w.heap.size w wr) (fun _ i _ _ _ _ => G.length - (intOf i).toNat)
 case atStart =>
  refine ⟨0, Nat.zero_le _, rfl, ?_, (Below.heap_alloc _ _ _ (by simp)).trans (heap_alloc_new _ _), b2 _ _ _⟩
  have := VRow.empty (w := w.alloc (.cells #[.slice ao G.length cap] 24)) (base := w.heap.size + 1) (t := 105) (by simp)
  rw [World.size_alloc] at this
  exact this
 case round =>
  obtain ⟨j, hj, rfl, hRow, hgb, hb⟩ := hrel
  have c0 := cell_of_one hgb
  have hl0 := lt_of_block hgb
  by_cases hlt : j < G.length
  ·obtain ⟨b, off, rfl, hP, hc⟩ := HG.out (by omega)
   obtain ⟨eo, ec, e0, e1, e2, e3⟩ := hc j hlt
   have hbb := lt_cell e0
   have d0 := (hb.cell (p := ⟨b, off + j * 3, none⟩) hbb).trans e0
   have d1 := (hb.cell (p := ⟨b, off + j * 3 + 1, none⟩) hbb).trans e1
   have d2 := (hb.cell (p := ⟨b, off + j * 3 + 2, none⟩) hbb).trans e2
   have HE : Hid (EdAt w P eo G[j].es) := e3
   have hlen : G[j].es.length ≤ 8796093022208 := (hok _ (List.getElem_mem hlt)).len
   have HS : Hid (G.take (j + 1) = G.take j ++ [G[j]]) := List.take_succ_eq_append_getElem hlt
   generalize G[j] = y at d0 d1 d2 HE hlen HS
   clear e0 e1 e2 e3 hc
   obtain ⟨wo, rfl⟩ : ∃ wo, wo = wr := ⟨_, rfl⟩
   have HR : Hid (VRow wo (w.heap.size + 1) 105 u3 (G.take j)) := hRow
   have hgo := hgb
   obtain ⟨bv, hbv⟩ : ∃ bv, wo.heap.size = bv := ⟨_, rfl⟩
   have hRI : RI wo ((wo.alloc (.cells #[.int .i64 y.id, .int .i64 y.val, .slice eo y.es.length ec] 65)).alloc (.cells #[.int .i64 y.id, .int .i64 y.val, .slice none 0 0] 105)) bv (bv + 1) y eo ec (.slice none 0 0) [] := by
    rw [← hbv]
    refine ⟨b2 _ _ _, (Below.heap_alloc _ _ _ (by simp)).trans (heap_alloc_new _ _), ?_, World.ownsRow_nil _ _ _ _, Nat.le_refl _, by omega⟩
    have := heap_alloc_new (wo.alloc (.cells #[.int .i64 y.id, .int .i64 y.val, .slice eo y.es.length ec] 65)) (.cells #[.int .i64 y.id, .int .i64 y.val, .slice none 0 0] 105)
    rw [World.size_alloc] at this
    exact this
   have HI : Hid _ := hRI
   clear hRI hRow hgo
   go_wp2
   go_loopw [7] (fun i wx => ∃ (k : Nat) (ev : Value), k ≤ y.es.length ∧ i = .int .i64 k ∧ RI wo wx bv (bv + 1) y eo ec ev (y.es.take k)) (fun i _ => y.es.length - (intOf i).toNat)
   case atStart => exact ⟨0, _, Nat.zero_le _, rfl, HI.out⟩
   case round =>
    obtain ⟨k, ev, hk, rfl, hX⟩ := hrel
    obtain ⟨a0, a1, a2, x0, x1, x2, x3, x4, x5⟩ := hX.facts
    have hbw : Below w.heap.size w wr := hb.trans (hX.low.mono hb.size)
    have g0 : wr.cell? ⟨w.heap.size, 0, none⟩ = some (.slice (some ⟨b, off, none⟩) G.length cap) := (hX.low.cell (p := ⟨w.heap.size, 0, none⟩) hl0).trans c0
    obtain ⟨fo, m, c, rfl⟩ := own_any hX.own
    by_cases hkl : k < y.es.length
    ·obtain ⟨eb, eoff, rfl, hPe, hce⟩ := HE.out (by omega)
     have f0 := (hbw.cell (p := ⟨eb, eoff + k * 2, none⟩) (lt_cell (hce k hkl).1)).trans (hce k hkl).1
     have f1 := (hbw.cell (p := ⟨eb, eoff + k * 2 + 1, none⟩) (lt_cell (hce k hkl).1)).trans (hce k hkl).2
     have HT : Hid (y.es.take (k + 1) = y.es.take k ++ [y.es[k]]) := List.take_succ_eq_append_getElem hkl
     have HL : Hid ((y.es.take k).length = k) := by show _ = _; rw [List.length_take]; omega
     generalize y.es[k] = z at f0 f1 HT
     have HX : Hid _ := hX
     clear hX hce
     go_wp2
     go_region_law
      ((refine step_append_own rfl (.tmp 34) (.tmp 48) 103 rfl (bv + 1 + 1) 108 i0 (.agg #[.int .i64 0, .int .i64 0]) 2 16 Tryz.underlying103 hi hz0 hz1 hz2 rfl (by decide) (.slice fo m c) _ _ (by simp [Act.eval]) ((HX.out.new ((Below.refl _ _).drew)).new (one_new _ _)).own ⟨wr.heap.size, 0, none⟩ 1 1 [.int .i64 z.t, .int .i64 z.w] (by simp [Act.eval]) rfl (two_new (heap_alloc_new _ _)) (by intro u hu; simp at hu; rcases hu with rfl | rfl <;> rfl) (by rw [HL.out]; unfold maxLen; omega) (by rw [HL.out]; omega) (by simp; omega) ?_; intro v' w1 hown' hgrow hat; have hT4 := ((HX.out.new ((Below.refl _ _).drew)).new (one_new _ _)).app hown' hgrow; obtain ⟨q1, q2⟩ := ((HX.out.new ((Below.refl _ _).drew)).new (one_new _ _)).grew hgrow; obtain ⟨ao', m', c', rfl⟩ := own_any hown'; have H4 : Hid _ := hT4; clear hT4 hown' hgrow hat))
     all_goals
      go_wp2
      go_roundw
      case rel => exact ⟨k + 1, _, by omega, by go_num, by rw [HT.out]; exact H4.out⟩
      case measure => simp [intOf]; omega
    ·obtain rfl : k = y.es.length := by omega
     rw [List.take_length] at hX
     obtain ⟨hm, hEd⟩ := own_eds hX.own
     subst hm
     have HU : Hid (∃ uo um uc, u3 = .slice uo um uc) := HR.out.any
     obtain ⟨uo, um, uc, rfl⟩ := HU.out
     have hRn := (HR.out.new hX.low).new (one_new wr (.cells #[.int .i64 y.id, .int .i64 y.val, .slice fo y.es.length c] 105))
     have hEn : EdAt (wr.alloc (.cells #[.int .i64 y.id, .int .i64 y.val, .slice fo y.es.length c] 105)) (fun k => w.heap.size + 1 ≤ k ∧ (Value.slice uo um uc).ownBlock ≠ some k) fo y.es := (hEd.new (one_new wr _)).mono (fun k _ hk => ⟨by have := hk.1; omega, fun e => by have := (HR.out.lt k e).2; have := hk.1; omega⟩)
     obtain ⟨M, ho, hgo2⟩ := hRn.app (ec := c) hEn
     have HL : Hid ((G.take j).length = j) := by show _ = _; rw [List.length_take]; omega
     have HX : Hid _ := hX
     have hnew := heap_alloc_new wr (.cells #[.int .i64 y.id, .int .i64 y.val, .slice fo y.es.length c] 105)
     clear hX hEd hRn hEn
     go_wp2_with (at_builtin; refine wpList_append_own_at _ rfl _ _ 32 rfl (w.heap.size + 1) 105 i1 (.agg #[.int .i64 0, .int .i64 0, .slice none 0 0]) 3 40 Tryz.underlying32 hj1 hy0 hy1 hy2 rfl (by decide) _ _ _ rfl ho ⟨wr.heap.size, 0, none⟩ 1 1 [.int .i64 y.id, .int .i64 y.val, .slice fo y.es.length c] rfl rfl ?c1 ?c2 ?c3 ?c4 ?c5 ?_)
     case c1 => exact three_new hnew
     case c2 => intro u hu; simp at hu; rcases hu with rfl | rfl | rfl <;> rfl
     case c3 => rw [HL.out]; unfold maxLen; omega
     case c4 => rw [HL.out]; omega
     case c5 => have := hbw.size; simp; omega
     ·intro v' w4 hown' hgrow _ hat
      have hR4 := hgo2 w4 v' (by rw [HL.out]; exact hown') hgrow (by simpa using hat)
      have hb4 : Below w.heap.size w w4 := (hbw.alloc hbw.size _).grown hgrow (by have := hbw.size; simp; omega) (fun q hq => by have := (HR.out.lt q hq).1; omega)
      have hg4 : w4.heap[w.heap.size]? = some (.cells #[.slice (some ⟨b, off, none⟩) G.length cap] 24 (0, 0)) := (hgrow.block w.heap.size (by have := hbw.size; have := HX.out.low.size; simp; omega) (fun e => by have := (HR.out.lt _ e.symm).1; omega)).trans ((Below.heap_alloc _ _ _ (by have := HX.out.low.size; omega)).trans ((HX.out.low.block _ hl0).trans hgb))
      obtain ⟨ao', m', c', rfl⟩ := own_any hown'
      have H4 : Hid _ := hR4
      have H5 : Hid _ := hg4
      clear hR4 hg4 hown' hgrow hat ho hgo2
      go_wp2
      go_roundw
      case rel => exact ⟨j + 1, by omega, by go_num, by rw [HS.out]; exact H4.out, H5.out, hb4⟩
      case measure => simp [intOf]; omega
  ·obtain rfl : j = G.length := by omega
   rw [List.take_length] at hRow
   obtain ⟨bo, m, c, rfl⟩ := hRow.any
   obtain ⟨rfl, hV⟩ := hRow.at_
   go_wp2
   go_ret
   exact ⟨bo, c, rfl, hV.mono (fun k _ hk => by omega), hb⟩
end
set_option maxHeartbeats 400000 in
theorem refbytes_any {w : World} {P : Nat → Prop} {ao : Option Addr} (G : List Vx) (cap : Nat) (hG : VxAt w P ao G) (hok : ∀ v ∈ G, v.ok) (hl : G.length ≤ 256) (hes : ∀ v ∈ G, v.es.length ≤ 2048) (hr : room G ≤ 48640) :
  Calls Tryz.prog 35 #[.slice ao G.length cap] w fun r w' => r = .returned (.string (str (grB G))) ∧ Below w.heap.size w w' := by
 have hN := fun W => refnumber_any G.length W (by omega)
 have hcv : IntKind.u64.wrap (G.length : Int) = (G.length : Int) := by rw [IntKind.wrap_u64]; omega
 have s3 : (str (numB G.length)).size ≤ 10 := numB_len10 (n := G.length) (by omega)
 have HG : Hid (VxAt w P ao G) := hG
 have HO : Hid (∀ v ∈ G, v.ok) := hok
 have HE : Hid (∀ v ∈ G, v.es.length ≤ 2048) := hes
 clear hG hok hes
 go_enter Tryz.func35, Tryz.ntmps35
 go_wp2_with (go_at_call 36; refine (hN _).mono ?_; rintro r w3 ⟨rfl, hb3⟩)
 clear hN hcv
 go_loopw [3, 4] (fun u i wr => ∃ (k : Nat), k ≤ G.length ∧ i = .int .i64 k ∧ u = .string (str (numB G.length ++ (G.take k).flatMap vxB)) ∧ Below w.heap.size w wr) (fun _ i _ => G.length - (intOf i).toNat)
 case atStart => exact ⟨0, Nat.zero_le _, rfl, by simp, hb3⟩
 case round =>
  obtain ⟨k, hk, rfl, rfl, hbr⟩ := hrel
  by_cases hlt : k < G.length
  ·have HV := HG.out.new hbr
   obtain ⟨b, off, rfl, hP, hc⟩ := HV (by omega)
   obtain ⟨eo, ec, f0, f1, f2, f3⟩ := hc k hlt
   have HS : Hid _ := vxs_snoc G k hlt
   have HZ : Hid (G[k].ok) := HO.out _ (List.getElem_mem hlt)
   have HL : Hid (G[k].es.length ≤ 2048) := HE.out _ (List.getElem_mem hlt)
   have HF : Hid (EdAt _ _ eo G[k].es) := f3
   have z1 : (str (vxB G[k])).size ≤ 50000 := by show (vxB G[k]).length ≤ _; have := vxB_len HZ.out; have := HL.out; omega
   have z0 : (str (numB G.length ++ (G.take k).flatMap vxB)).size ≤ 100000 := by
    have h4 := vxsB_len (G.take k) (fun e he => HO.out e (List.mem_of_mem_take he))
    have h5 := room_at hlt
    have h6 : (numB G.length).length ≤ 10 := s3
    show (_ : List UInt8).length ≤ _
    simp only [List.length_append]
    omega
   generalize G[k] = z at f0 f1 f2 HF HS HZ HL z1
   generalize hA : numB G.length ++ (G.take k).flatMap vxB = A at z0 ⊢
   have HA : Hid _ := hA
   clear hc hA f3 HV
   go_wp2_with (go_at_call 63; refine (vertexbytes_any z ec HF.out HZ.out HL.out).mono ?_; rintro r w4 ⟨rfl, hb4⟩; have hB4 := hbr.trans (hb4.mono hbr.size))
   go_roundw
   case rel => exact ⟨k + 1, by omega, by go_num, by rw [HS.out, ← List.append_assoc, HA.out, str_append], hB4⟩
   case measure => simp [intOf]; omega
  ·obtain rfl : k = G.length := by omega
   go_wp2
   go_ret
   exact ⟨by rw [List.take_length]; rfl, hbr⟩
theorem at_drop {l a c : List UInt8} (h : l = a ++ c) : l.drop a.length = c := by rw [h, List.drop_left]
theorem num_at {s : ByteArray} {a c : List UInt8} {n : Nat} (h : s.data.toList = a ++ (numB n ++ c)) (hn : n < 18446744073709551616) : rdNum s a.length 0 = (n, (a ++ numB n).length, 0) := by
 have : pnum (s.data.toList.drop a.length) = (n, (numB n).length, 0) := by rw [at_drop h]; exact pnum_num c hn
 rw [List.length_append]; exact rd_ok this
theorem count_at {s : ByteArray} {a c : List UInt8} {n most : Nat} (h : s.data.toList = a ++ (numB n ++ c)) (hn : n ≤ most) (hm : most < 18446744073709551616) : rdCount s a.length 0 most = (n, (a ++ numB n).length, 0) := by
 have : pnum (s.data.toList.drop a.length) = (n, (numB n).length, 0) := by rw [at_drop h]; exact pnum_num c (by omega)
 rw [List.length_append]
 exact (rd_ok this).trans (if_neg (by omega))
theorem sg_back {k : Int} (h : I64 k) : unfoldN ((foldN k).toNat : Nat) = k := by
 rw [Int.toNat_of_nonneg (fold_bd k h.1 h.2).1, unfold_fold]
section
structure TG (w wr : World) (p : Nat) (s : ByteArray) (sv : Value) (G : List Vx) (a : Nat) (e : Int) : Prop where
 rd : Rd wr p s a e
 fr : Fr w wr (fun k => k = p)
 gb : wr.heap[w.heap.size + 1]? = some (.cells #[sv] 24 (0, 0))
 rb : wr.heap[w.heap.size]? = some (.cells #[.slice none 0 0] 24 (0, 0))
 row : VRow wr (w.heap.size + 2) 65 sv G
 hp : p < w.heap.size
section
variable {w wr : World} {p : Nat} {s : ByteArray} {sv : Value} {G : List Vx} {a : Nat} {e : Int}
theorem TG.step (h : TG w wr p s sv G a e) {w1 : World} {a' : Nat} {e' : Int} (f : Fr wr w1 (fun k => k = p)) (hr : Rd w1 p s a' e') : TG w w1 p s sv G a' e' := by
 have h2 := h.hp
 exact ⟨hr, h.fr.trans f (fun _ _ h => h), (f.block _ (lt_of_block h.gb) (by omega)).trans h.gb, (f.block _ (lt_of_block h.rb) (by omega)).trans h.rb, h.row.kept f (fun k hk => by omega), h.hp⟩
theorem TG.al (h : TG w wr p s sv G a e) (o : Obj) : TG w (wr.alloc o) p s sv G a e := h.step (Fr.alloc wr o _) (h.rd.kept (Fr.alloc wr o (fun _ => False)) (fun h => h))
theorem TG.below (h : TG w wr p s sv G a e) {w1 : World} (hb : Below wr.heap.size wr w1) : TG w w1 p s sv G a e := h.step (Fr.ofBelow hb _) (h.rd.below hb)
theorem TG.app (h : TG w wr p s sv G a e) {w1 : World} {sv' : Value} {G' : List Vx} (hg : wr.grownBy w1 sv.ownBlock) (hr : VRow w1 (w.heap.size + 2) 65 sv' G') : TG w (w1.setCell ⟨w.heap.size + 1, 0, none⟩ sv') p s sv' G' a e := by
 have h2 := h.hp
 have f1 : Fr wr w1 (fun k => sv.ownBlock = some k) := Fr.grown hg (fun k hk => hk)
 have f2 : Fr w1 (w1.setCell ⟨w.heap.size + 1, 0, none⟩ sv') (fun k => k = w.heap.size + 1) := Fr.setCell (S := fun k => k = w.heap.size + 1) w1 ⟨w.heap.size + 1, 0, none⟩ sv' rfl
 have f : Fr wr (w1.setCell ⟨w.heap.size + 1, 0, none⟩ sv') (fun k => w.heap.size + 1 ≤ k) := (f1.mono (T := fun k => w.heap.size + 1 ≤ k) (fun k _ hk => by have := (h.row.lt k hk).1; omega)).trans f2 (fun k _ hk => Nat.le_of_eq hk.symm)
 have hgb := (f1.block _ (lt_of_block h.gb) (fun hk => by have := (h.row.lt _ hk).1; omega)).trans h.gb
 exact ⟨h.rd.kept f (by omega), h.fr.trans f (fun k hk hb => by omega), one_setCell hgb, (f.block _ (lt_of_block h.rb) (by omega)).trans h.rb, hr.kept f2 (fun k hk => by omega), h.hp⟩
theorem TG.grew (h : TG w wr p s sv G a e) {w1 : World} (hg : wr.grownBy w1 sv.ownBlock) : w1.cell? ⟨w.heap.size + 1, 0, none⟩ = some sv ∧ w1.frozen? ⟨w.heap.size + 1, 0, none⟩ = false := by
 have f1 : Fr wr w1 (fun k => sv.ownBlock = some k) := Fr.grown hg (fun k hk => hk)
 have hgb := (f1.block _ (lt_of_block h.gb) (fun hk => by have := (h.row.lt _ hk).1; omega)).trans h.gb
 exact ⟨cell_of_one hgb, free_of_one hgb⟩
theorem TG.facts (h : TG w wr p s sv G a e) : wr.cell? ⟨w.heap.size + 1, 0, none⟩ = some sv ∧ wr.frozen? ⟨w.heap.size + 1, 0, none⟩ = false ∧ wr.cell? ⟨w.heap.size, 0, none⟩ = some (.slice none 0 0) ∧ wr.frozen? ⟨w.heap.size, 0, none⟩ = false ∧ w.heap.size + 1 < wr.heap.size ∧ w.heap.size < wr.heap.size :=
 ⟨cell_of_one h.gb, free_of_one h.gb, cell_of_one h.rb, free_of_one h.rb, lt_of_block h.gb, lt_of_block h.rb⟩
theorem TG.none_ (h : TG w wr p s sv G a e) (u : Value) : Rd (wr.setCell ⟨w.heap.size, 0, none⟩ u) p s a e ∧ Fr w (wr.setCell ⟨w.heap.size, 0, none⟩ u) (fun k => k = p) := by
 have h2 := h.hp
 have f := Fr.setCell (S := fun k => k = w.heap.size) wr ⟨w.heap.size, 0, none⟩ u rfl
 exact ⟨h.rd.kept f (by omega), h.fr.trans f (fun k hk hb => by omega)⟩
theorem TG.done {ao : Option Addr} {n c : Nat} (h : TG w wr p s (.slice ao n c) G a e) (u : Value) : n = G.length ∧ VxAt (wr.setCell ⟨w.heap.size, 0, none⟩ u) (fun k => w.heap.size ≤ k) ao G := by
 have f := Fr.setCell (S := fun k => k = w.heap.size) wr ⟨w.heap.size, 0, none⟩ u rfl
 obtain ⟨hn, he⟩ := h.row.at_
 exact ⟨hn, he.kept f (fun k _ hk => ⟨by omega, by omega⟩)⟩
end
theorem rdVs_go {s : ByteArray} {n a x : Nat} {v : Vx} (h : rdV s a 0 = (v, x, 0)) : rdVs s (n + 1) a 0 = (v :: (rdVs s n x 0).1, (rdVs s n x 0).2) := by
 simp only [rdVs, h, if_true]
theorem rdVs_bad {s : ByteArray} {n a x : Nat} {v : Vx} {y : Int} (h : rdV s a 0 = (v, x, y)) (hy : y ≠ 0) : rdVs s (n + 1) a 0 = ([], x, y) := by
 simp only [rdVs, h, if_neg hy]
theorem takev_to {w : World} {p : Nat} {s : ByteArray} {a x : Nat} {e y : Int} {v : Vx} (h : Rd w p s a e) (hs : s.size ≤ maxLen) (ha : a ≤ s.size) (hq : rdV s a e = (v, x, y)) :
  Calls Tryz.prog 61 #[.pointer (some ⟨p, 0, none⟩)] w fun r w' => ∃ eo ec, r = .returned (.agg #[.int .i64 v.id, .int .i64 v.val, .slice eo v.es.length ec]) ∧ EdAt w' (fun k => w.heap.size ≤ k) eo v.es ∧ Rd w' p s x y ∧ Fr w w' (fun k => k = p) := by
 have := takevertex_any h hs ha; rw [hq] at this; exact this
theorem rdG_bad {s : ByteArray} {a x : Nat} {e y : Int} {G : List Vx} (h : rdGs s a e = (G, x, y)) (hy : y ≠ 0) : rdG s a e = ([], x, y) := by
 unfold rdG; rw [h]; simp [hy]
theorem rdG_chk {s : ByteArray} {a x : Nat} {e : Int} {G : List Vx} (h : rdGs s a e = (G, x, 0)) (hc : chk G ≠ 0) : rdG s a e = ([], x, chk G) := by
 unfold rdG; rw [h]; simp [hc]
theorem rdG_ok {s : ByteArray} {a x : Nat} {e : Int} {G : List Vx} (h : rdGs s a e = (G, x, 0)) (hc : chk G = 0) : rdG s a e = (G, x, 0) := by
 unfold rdG; rw [h]; simp [hc]
set_option maxHeartbeats 1000000 in
theorem take_any {w : World} {p : Nat} {s : ByteArray} {a : Nat} {e : Int} (h : Rd w p s a e) (hs : s.size ≤ maxLen) (ha : a ≤ s.size) :
  Calls Tryz.prog 29 #[.pointer (some ⟨p, 0, none⟩)] w fun r w' => ∃ ao cap, r = .returned (.agg #[.slice ao (rdG s a e).1.length cap]) ∧ VxAt w' (fun k => w.heap.size ≤ k) ao (rdG s a e).1 ∧ Rd w' p s (rdG s a e).2.1 (rdG s a e).2.2 ∧ Fr w w' (fun k => k = p) := by
 obtain ⟨i0, hi, hz0, hz1, hz2⟩ := info_parts infoVx
 obtain ⟨⟨n, a1, e1⟩, h1⟩ : ∃ q, rdCount s a e 256 = q := ⟨_, rfl⟩
 have g1 := rdCount_to (most := 256) ha h1
 have HG : Hid (rdGs s a e = rdVs s n a1 e1) := by show _ = _; unfold rdGs; simp only [h1]
 have H1 : Hid _ := h1
 have hn := g1.2.1
 have G1 : Hid _ := g1
 have hlt := h.lt
 have HA : Hid (∀ o1 o2, Rd ((w.alloc o1).alloc o2) p s a e) := fun o1 o2 => (h.kept (Fr.alloc w o1 (fun _ => False)) (fun h => h)).kept (Fr.alloc _ o2 (fun _ => False)) (fun h => h)
 clear h1 g1 h
 go_enter Tryz.func29, Tryz.ntmps29
 go_wp2_with (go_at_call 31; refine (rct_to (HA.out _ _) hs ha (by decide) H1.out).mono ?_; rintro r w3 ⟨rfl, hr3, hf3⟩)
 have hTG : TG w w3 p s (.slice none 0 0) [] a1 e1 := by
  have hfA : Fr w w3 (fun k => k = p) := ((Fr.alloc w _ _).trans (Fr.alloc _ _ _) (fun _ _ h => h)).trans hf3 (fun _ _ h => h)
  refine ⟨hr3, hfA, (hf3.block _ (by simp) (by omega)).trans ?_, (hf3.block _ (by simp; omega) (by omega)).trans ((Below.heap_alloc _ _ _ (by simp)).trans (heap_alloc_new _ _)), VRow.nil _ _ _, hlt⟩
  have := heap_alloc_new (w.alloc (.cells #[.slice none 0 0] 24)) (.cells #[.slice none 0 0] 24)
  rw [World.size_alloc] at this
  exact this
 clear hr3 hf3
 go_loopw [4, 8] (fun _ i wr => ∃ (j : Nat) (sv : Value) (G : List Vx) (x : Nat) (y : Int), j ≤ n ∧ i = .int .i64 j ∧ Hid (rdVs s n a1 e1 = (G ++ (rdVs s (n - j) x y).1, (rdVs s (n - j) x y).2)) ∧ Hid (x ≤ s.size ∧ G.length = j ∧ (j < n → y = 0) ∧ ∀ v ∈ G, v.ok) ∧ TG w wr p s sv G x y) (fun _ i _ => n - (intOf i).toNat)
 case atStart => exact ⟨0, _, [], a1, e1, Nat.zero_le _, rfl, (by simp : rdVs s n a1 e1 = ([] ++ (rdVs s (n - 0) a1 e1).1, (rdVs s (n - 0) a1 e1).2)), ⟨G1.out.1, rfl, G1.out.2.2.2, fun v hv => by cases hv⟩, hTG⟩
 case round =>
  obtain ⟨j, sv, G, x, y, hj, rfl, HS, HX, hT⟩ := hrel
  obtain ⟨ao, m, c, rfl⟩ := hT.row.any
  by_cases hjn : j < n
  ·obtain rfl : y = 0 := HX.out.2.2.1 hjn
   obtain ⟨⟨v, x1, y1⟩, q1⟩ : ∃ q, rdV s x 0 = q := ⟨_, rfl⟩
   have g1 := rdV_to (e := 0) HX.out.1
   rw [q1] at g1
   have Q1 : Hid _ := q1
   have GG : Hid _ := g1
   by_cases hy : y1 = 0
   ·subst hy
    have HN : Hid (rdVs s (n - j) x 0 = (v :: (rdVs s (n - (j + 1)) x1 0).1, (rdVs s (n - (j + 1)) x1 0).2)) := by
     show _ = _
     rw [show n - j = (n - (j + 1)) + 1 by omega, rdVs_go q1]
    clear q1 g1
    have HB : Hid (w.heap.size + 2 ≤ wr.heap.size) := by have := lt_of_block hT.gb; show _ ≤ _; omega
    have HL : Hid (∀ k, (Value.slice ao m c).ownBlock = some k → k < wr.heap.size) := fun k hk => (hT.row.lt k hk).2
    go_wp2_with (first
     | (go_at_call 61; refine (takev_to hT.rd hs HX.out.1 Q1.out).mono ?_; rintro r w1 ⟨eo, ec, rfl, hE1, hr1, hf1⟩; have hT1 := hT.step hf1 hr1; obtain ⟨k0, k1, k2, k3, k4, k5⟩ := hT1.facts; have hsz1 := hf1.size)
     | (go_at_call 33; refine (err_any (hT1.al _).rd).mono ?_; rintro r w3 ⟨rfl, rfl⟩; have hE2 : EdAt ((w1.alloc (.cells #[.int .i64 v.id, .int .i64 v.val, .slice eo v.es.length ec] 65)).alloc (.cells #[.int .i64 v.id, .int .i64 v.val, .slice eo v.es.length ec] 65)) (fun k => w.heap.size + 2 ≤ k ∧ (Value.slice ao m c).ownBlock ≠ some k) eo v.es := (hE1.new (b2 w1 _ _)).mono (fun k _ hk => ⟨Nat.le_trans HB.out hk, fun e => by have := HL.out k e; omega⟩); obtain ⟨M, ho, hgo⟩ := ((hT1.al (.cells #[.int .i64 v.id, .int .i64 v.val, .slice eo v.es.length ec] 65)).al (.cells #[.int .i64 v.id, .int .i64 v.val, .slice eo v.es.length ec] 65)).row.app (ec := ec) hE2)
     | (at_builtin; refine wpList_append_own_at _ rfl _ _ 22 rfl (w.heap.size + 2) 65 i0 (.agg #[.int .i64 0, .int .i64 0, .slice none 0 0]) 3 40 Tryz.underlying22 hi hz0 hz1 hz2 rfl (by decide) _ _ _ rfl ho ⟨w1.heap.size + 1, 0, none⟩ 1 1 [.int .i64 v.id, .int .i64 v.val, .slice eo v.es.length ec] rfl rfl ?c1 ?c2 ?c3 ?c4 ?c5 ?_))
    case c1 => exact three_new (by have := heap_alloc_new (w1.alloc (.cells #[.int .i64 v.id, .int .i64 v.val, .slice eo v.es.length ec] 65)) (.cells #[.int .i64 v.id, .int .i64 v.val, .slice eo v.es.length ec] 65); rw [World.size_alloc] at this; exact this)
    case c2 => intro u hu; simp at hu; rcases hu with rfl | rfl | rfl <;> rfl
    case c3 => have := HX.out.2.1; unfold maxLen; omega
    case c4 => have := HX.out.2.1; omega
    case c5 => have := HB.out; simp; omega
    ·intro v' w4 hown' hgrow _ hat
     have hR := hgo w4 v' hown' hgrow (by simpa using hat)
     have hT4 := ((hT1.al _).al _).app hgrow hR
     obtain ⟨q2, q3⟩ := ((hT1.al _).al _).grew hgrow
     obtain ⟨ao', m', c', rfl⟩ := own_any hown'
     have HT : Hid _ := hT4
     clear hT4 hT1 hT hown' hgrow hR hgo ho hE1 hE2
     go_wp2
     go_roundw
     case rel => exact ⟨j + 1, _, _, x1, 0, by omega, by go_num, (by rw [HS.out, HN.out]; simp : rdVs s n a1 e1 = ((G ++ [v]) ++ (rdVs s (n - (j + 1)) x1 0).1, (rdVs s (n - (j + 1)) x1 0).2)), ⟨GG.out.1, by have := HX.out.2.1; simp; omega, fun _ => rfl, fun z hz => by
      rcases List.mem_append.1 hz with hz | hz
      ·exact HX.out.2.2.2 z hz
      ·obtain rfl : z = v := by simpa using hz
       exact GG.out.2.2⟩, HT.out⟩
     case measure => simp [intOf]; omega
   ·have HN : Hid (rdGs s a e = (G, x1, y1)) := by
     show _ = _
     rw [HG.out, HS.out, show n - j = (n - (j + 1)) + 1 by omega, rdVs_bad q1 hy]; simp
    have HR : Hid _ := rdG_bad HN.out hy
    have hy0 : (y1 == 0) = false := by rw [beq_eq_false_iff_ne]; exact hy
    clear q1 g1
    go_wp2_with (first
     | (go_at_call 61; refine (takev_to hT.rd hs HX.out.1 Q1.out).mono ?_; rintro r w1 ⟨eo, ec, rfl, hE1, hr1, hf1⟩; have hT1 := hT.step hf1 hr1; obtain ⟨k0, k1, k2, k3, k4, k5⟩ := hT1.facts; have hsz1 := hf1.size)
     | (go_at_call 33; refine (err_any (hT1.al _).rd).mono ?_; rintro r w3 ⟨rfl, rfl⟩))
    obtain ⟨d2, d3⟩ := hT1.none_ (.slice none 0 0)
    refine bodyPost_ret (v := .agg #[.slice none 0 0]) (by simp [results, Tryz.results29, go_sem, k2, k5]) rfl ?_
    rw [HR.out]
    exact ⟨none, 0, rfl, fun h => absurd h (by simp), d2.kept (Fr.alloc _ _ (fun _ => False)) (fun h => h), d3.trans (Fr.alloc _ _ (fun _ => False)) (fun _ _ h => h.elim)⟩
  ·have HN : Hid (rdGs s a e = (G, x, y)) := by
    show _ = _
    rw [HG.out, HS.out, show n - j = 0 by omega]; simp [rdVs]
   obtain ⟨hm, hV⟩ := hT.row.at_
   have hGl : G.length ≤ 9223372036854775807 := by have := HX.out.2.1; omega
   have hC := check_any c hV hGl HX.out.2.2.2
   rw [← hm] at hC
   have HM : Hid (m = G.length) := hm
   clear hm
   obtain ⟨k0, k1, k2, k3, k4, k5⟩ := hT.facts
   by_cases hy : y = 0
   ·subst hy
    by_cases hc : chk G = 0
    ·have HR : Hid _ := rdG_ok HN.out hc
     rw [hc] at hC
     clear hc
     go_wp2_with (first
      | (go_at_call 44; refine hC.mono ?_; rintro r w1 ⟨rfl, hb1⟩; have hT1 := hT.below hb1)
      | (go_at_call 32; refine (rfail_any hT1.rd).mono ?_; rintro r w2 ⟨rfl, hr2, hf2⟩; rw [rdFail_0] at hr2; have hT2 := hT1.step hf2 hr2; obtain ⟨p0, p1, p2, p3, p4, p5⟩ := hT2.facts)
      | (go_at_call 33; refine (err_any hT2.rd).mono ?_; rintro r w3 ⟨rfl, rfl⟩))
     obtain ⟨d2, d3⟩ := hT2.none_ (.slice ao m c)
     obtain ⟨_, d4⟩ := hT2.done (.slice ao m c)
     refine bodyPost_ret (v := .agg #[.slice ao m c]) (by simp [results, Tryz.results29, go_sem, p2]) rfl ?_
     rw [HR.out]
     exact ⟨ao, c, by rw [HM.out], d4, d2, d3⟩
    ·have HR : Hid _ := rdG_chk HN.out hc
     have hc0 : (chk G == 0) = false := by rw [beq_eq_false_iff_ne]; exact hc
     go_wp2_with (first
      | (go_at_call 44; refine hC.mono ?_; rintro r w1 ⟨rfl, hb1⟩; have hT1 := hT.below hb1)
      | (go_at_call 32; refine (rfail_any hT1.rd).mono ?_; rintro r w2 ⟨rfl, hr2, hf2⟩; rw [rdFail_0] at hr2; have hT2 := hT1.step hf2 hr2; obtain ⟨p0, p1, p2, p3, p4, p5⟩ := hT2.facts)
      | (go_at_call 33; refine (err_any hT2.rd).mono ?_; rintro r w3 ⟨rfl, rfl⟩))
     obtain ⟨d2, d3⟩ := hT2.none_ (.slice none 0 0)
     refine bodyPost_ret (v := .agg #[.slice none 0 0]) (by simp [results, Tryz.results29, go_sem, p2]) rfl ?_
     rw [HR.out]
     exact ⟨none, 0, rfl, fun h => absurd h (by simp), d2, d3⟩
   ·have HR : Hid _ := rdG_bad HN.out hy
    have hy0 : (y == 0) = false := by rw [beq_eq_false_iff_ne]; exact hy
    have HF : Hid _ := rdFail_e hy (chk G)
    go_wp2_with (first
     | (go_at_call 44; refine hC.mono ?_; rintro r w1 ⟨rfl, hb1⟩; have hT1 := hT.below hb1)
     | (go_at_call 32; refine (rfail_any hT1.rd).mono ?_; rintro r w2 ⟨rfl, hr2, hf2⟩; rw [HF.out] at hr2; have hT2 := hT1.step hf2 hr2; obtain ⟨p0, p1, p2, p3, p4, p5⟩ := hT2.facts)
     | (go_at_call 33; refine (err_any hT2.rd).mono ?_; rintro r w3 ⟨rfl, rfl⟩))
    obtain ⟨d2, d3⟩ := hT2.none_ (.slice none 0 0)
    refine bodyPost_ret (v := .agg #[.slice none 0 0]) (by simp [results, Tryz.results29, go_sem, p2]) rfl ?_
    rw [HR.out]
    exact ⟨none, 0, rfl, fun h => absurd h (by simp), d2, d3⟩
end
end Go.Proofs.YtmgjlamglhpnaaaGreat
