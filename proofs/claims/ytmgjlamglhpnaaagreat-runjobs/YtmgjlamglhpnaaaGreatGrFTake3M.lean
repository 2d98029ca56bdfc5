/- The document's TakeVertex, Take and Decode. -/
import Derived.Test.YtmgjlamglhpnaaaGreatGrClone2M
import Derived.Test.YtmgjlamglhpnaaaGreatJbR19M
import Derived.Test.YtmgjlamglhpnaaaGreatGrTake3M
import Derived.Deep.Cut
import Derived.Deep.DeepCutAuto
namespace Go.Proofs.YtmgjlamglhpnaaaGreat
set_option maxRecDepth 100000
open Go.RowKit
section
theorem fsg_to {s : ByteArray} {a t a1 : Nat} {e e1 : Int} (w : World) (hs : s.size ≤ maxLen) (ha : a ≤ s.size) (h : rdNum s a e = (t, a1, e1)) :
  Calls Tryz.prog 41 #[.agg #[.string s, .int .i64 a, .int .i64 e]] w fun r w' =>
   r = .returned (.tuple #[.agg #[.string s, .int .i64 a1, .int .i64 e1], .int .i64 (unfoldN t)]) ∧ Below w.heap.size w w' := by
 have := fsigned_any (e := e) w hs ha; rw [h] at this; exact this
theorem fct_to {s : ByteArray} {a n a1 most : Nat} {e e1 : Int} (w : World) (hs : s.size ≤ maxLen) (ha : a ≤ s.size) (hm : most ≤ 9223372036854775807) (h : rdCount s a e most = (n, a1, e1)) :
  Calls Tryz.prog 40 #[.agg #[.string s, .int .i64 a, .int .i64 e], .int .i64 most] w fun r w' =>
   r = .returned (.tuple #[.agg #[.string s, .int .i64 a1, .int .i64 e1], .int .i64 n]) ∧ Below w.heap.size w w' := by
 have := fcount_any (e := e) (most := most) w hs ha (by omega); rw [h] at this; exact this
theorem set3_0 {w : World} {b : Nat} {t : TypeId} {u0 u1 u2 : Value} (h : w.heap[b]? = some (.cells #[u0, u1, u2] t (0, 0))) (u : Value) : (w.setCell ⟨b, 0, none⟩ u).heap[b]? = some (.cells #[u, u1, u2] t (0, 0)) := by
 have hlt := lt_of_block h
 have h' : w.heap[b] = .cells #[u0, u1, u2] t (0, 0) := by simpa [Array.getElem?_eq_getElem hlt] using h
 show (w.heap.modify b _)[b]? = _
 rw [Array.getElem?_eq_getElem (by simpa using hlt), Array.getElem_modify_self, h']
 rfl
theorem set3_1 {w : World} {b : Nat} {t : TypeId} {u0 u1 u2 : Value} (h : w.heap[b]? = some (.cells #[u0, u1, u2] t (0, 0))) (u : Value) : (w.setCell ⟨b, 1, none⟩ u).heap[b]? = some (.cells #[u0, u, u2] t (0, 0)) := by
 have hlt := lt_of_block h
 have h' : w.heap[b] = .cells #[u0, u1, u2] t (0, 0) := by simpa [Array.getElem?_eq_getElem hlt] using h
 show (w.heap.modify b _)[b]? = _
 rw [Array.getElem?_eq_getElem (by simpa using hlt), Array.getElem_modify_self, h']
 rfl
structure FV (w wr : World) (s : ByteArray) (x : Nat) (y i v : Int) (sv : Value) (L : List Ed) : Prop where
 low : Below w.heap.size w wr
 rb : wr.heap[w.heap.size]? = some (.cells #[.string s, .int .i64 x, .int .i64 y] 88 (0, 0))
 q1 : wr.heap[w.heap.size + 1]? = some (.cells #[.string ByteArray.empty, .int .i64 0, .int .i64 0] 88 (0, 0))
 q2 : wr.heap[w.heap.size + 1 + 1]? = some (.cells #[.int .i64 0, .int .i64 0, .slice none 0 0] 105 (0, 0))
 vb : wr.heap[w.heap.size + 1 + 1 + 1]? = some (.cells #[.int .i64 i, .int .i64 v, sv] 105 (0, 0))
 own : wr.ownsRow (w.heap.size + 1 + 1 + 1 + 1) 108 2 sv L.length (ecs L)
section
variable {w wr : World} {s : ByteArray} {x : Nat} {y i v : Int} {sv : Value} {L : List Ed}
theorem FV.new (h : FV w wr s x y i v sv L) {w1 : World} (hb : Below wr.heap.size wr w1) : FV w w1 s x y i v sv L :=
 ⟨h.low.trans (hb.mono h.low.size), (hb.block _ (lt_of_block h.rb)).trans h.rb, (hb.block _ (lt_of_block h.q1)).trans h.q1, (hb.block _ (lt_of_block h.q2)).trans h.q2, (hb.block _ (lt_of_block h.vb)).trans h.vb, own_new h.own hb⟩
theorem FV.al (h : FV w wr s x y i v sv L) (o : Obj) : FV w (wr.alloc o) s x y i v sv L := h.new (one_new _ _)
theorem FV.ne (h : FV w wr s x y i v sv L) {b : Nat} (hb : b ≤ w.heap.size + 1 + 1 + 1) : sv.ownBlock ≠ some b := fun e => by have := (h.own.lt b e).1; omega
theorem FV.ne' (h : FV w wr s x y i v sv L) {b : Nat} (hb : wr.heap.size ≤ b) : sv.ownBlock ≠ some b := fun e => by have := (h.own.lt b e).2; omega
theorem low_set (h : Below w.heap.size w wr) {b o : Nat} (u : Value) (hb : w.heap.size ≤ b) : Below w.heap.size w (wr.setCell ⟨b, o, none⟩ u) :=
 h.trans ((Fr.setCell (S := fun k => k = b) wr ⟨b, o, none⟩ u rfl).below h.size (fun k hk => by omega))
theorem blk_set {W : World} {b o k : Nat} {u : Value} {ob : Obj} (h : W.heap[k]? = some ob) (hn : k ≠ b) : (W.setCell ⟨b, o, none⟩ u).heap[k]? = some ob := (Below.heap_setCell W ⟨b, o, none⟩ u k hn).trans h
theorem FV.r0 (h : FV w wr s x y i v sv L) (s' : ByteArray) (x' : Nat) (y' : Int) : FV w (((wr.setCell ⟨w.heap.size, 0, none⟩ (.string s')).setCell ⟨w.heap.size, 1, none⟩ (.int .i64 x')).setCell ⟨w.heap.size, 2, none⟩ (.int .i64 y')) s' x' y' i v sv L := by
 refine ⟨low_set (low_set (low_set h.low _ (Nat.le_refl _)) _ (Nat.le_refl _)) _ (Nat.le_refl _), set3_2 (set3_1 (set3_0 h.rb _) _) _, blk_set (blk_set (blk_set h.q1 (by omega)) (by omega)) (by omega), blk_set (blk_set (blk_set h.q2 (by omega)) (by omega)) (by omega), blk_set (blk_set (blk_set h.vb (by omega)) (by omega)) (by omega), ?_⟩
 have hn := h.ne (b := w.heap.size) (by omega)
 exact ownsRow_setCell_other (ownsRow_setCell_other (ownsRow_setCell_other h.own hn _) hn _) hn _
theorem FV.v0 (h : FV w wr s x y i v sv L) (i' : Int) : FV w (wr.setCell ⟨w.heap.size + 1 + 1 + 1, 0, none⟩ (.int .i64 i')) s x y i' v sv L :=
 ⟨low_set h.low _ (by omega), blk_set h.rb (by omega), blk_set h.q1 (by omega), blk_set h.q2 (by omega), set3_0 h.vb _, ownsRow_setCell_other h.own (h.ne (Nat.le_refl _)) _⟩
theorem FV.v1 (h : FV w wr s x y i v sv L) (i' : Int) : FV w (wr.setCell ⟨w.heap.size + 1 + 1 + 1, 1, none⟩ (.int .i64 i')) s x y i i' sv L :=
 ⟨low_set h.low _ (by omega), blk_set h.rb (by omega), blk_set h.q1 (by omega), blk_set h.q2 (by omega), set3_1 h.vb _, ownsRow_setCell_other h.own (h.ne (Nat.le_refl _)) _⟩
theorem FV.oth (h : FV w wr s x y i v sv L) {b o : Nat} (u : Value) (hb : w.heap.size + 1 + 1 + 1 < b) (hn : sv.ownBlock ≠ some b) : FV w (wr.setCell ⟨b, o, none⟩ u) s x y i v sv L :=
 ⟨low_set h.low _ (by omega), blk_set h.rb (by omega), blk_set h.q1 (by omega), blk_set h.q2 (by omega), blk_set h.vb (by omega), ownsRow_setCell_other h.own hn _⟩
theorem FV.app (h : FV w wr s x y i v sv L) {w1 : World} {sv' : Value} {p q : Int} (ho : w1.ownsRow (w.heap.size + 1 + 1 + 1 + 1) 108 2 sv' (L.length + 1) (ecs L ++ [.int .i64 p, .int .i64 q])) (hg : wr.grownBy w1 sv.ownBlock) : FV w (w1.setCell ⟨w.heap.size + 1 + 1 + 1, 2, none⟩ sv') s x y i v sv' (L ++ [⟨p, q⟩]) := by
 have f1 : Fr wr w1 (fun k => sv.ownBlock = some k) := Fr.grown hg (fun k hk => hk)
 have hk : ∀ k, k ≤ w.heap.size + 1 + 1 + 1 → ¬ sv.ownBlock = some k := fun k hk => h.ne hk
 have hl : Below w.heap.size w w1 := h.low.trans (f1.below h.low.size (fun k hk => by have := (h.own.lt k hk).1; omega))
 refine ⟨low_set hl _ (by omega), blk_set ((f1.block _ (lt_of_block h.rb) (hk _ (by omega))).trans h.rb) (by omega), blk_set ((f1.block _ (lt_of_block h.q1) (hk _ (by omega))).trans h.q1) (by omega), blk_set ((f1.block _ (lt_of_block h.q2) (hk _ (by omega))).trans h.q2) (by omega), set3_2 ((f1.block _ (lt_of_block h.vb) (hk _ (by omega))).trans h.vb) _, ?_⟩
 rw [ecs_snoc, List.length_append]
 exact ownsRow_setCell_other ho (fun e => Nat.lt_irrefl (w.heap.size + 1 + 1 + 1) (ho.lt (w.heap.size + 1 + 1 + 1) e).1) _
theorem FV.grew (h : FV w wr s x y i v sv L) {w1 : World} (hg : wr.grownBy w1 sv.ownBlock) : w1.cell? ⟨w.heap.size + 1 + 1 + 1, 2, none⟩ = some sv ∧ w1.frozen? ⟨w.heap.size + 1 + 1 + 1, 2, none⟩ = false := by
 have f1 : Fr wr w1 (fun k => sv.ownBlock = some k) := Fr.grown hg (fun k hk => hk)
 have hxb := (f1.block _ (lt_of_block h.vb) (h.ne (Nat.le_refl _))).trans h.vb
 exact ⟨(box3 hxb).2.2, froz hxb⟩
theorem FV.rf (h : FV w wr s x y i v sv L) : wr.cell? ⟨w.heap.size, 0, none⟩ = some (.string s) ∧ wr.cell? ⟨w.heap.size, 1, none⟩ = some (.int .i64 x) ∧ wr.cell? ⟨w.heap.size, 2, none⟩ = some (.int .i64 y) ∧ wr.frozen? ⟨w.heap.size, 0, none⟩ = false ∧ wr.frozen? ⟨w.heap.size, 1, none⟩ = false ∧ wr.frozen? ⟨w.heap.size, 2, none⟩ = false := by
 obtain ⟨a0, a1, a2⟩ := box3 h.rb
 exact ⟨a0, a1, a2, froz h.rb, froz h.rb, froz h.rb⟩
theorem FV.vf (h : FV w wr s x y i v sv L) : wr.cell? ⟨w.heap.size + 1 + 1 + 1, 0, none⟩ = some (.int .i64 i) ∧ wr.cell? ⟨w.heap.size + 1 + 1 + 1, 1, none⟩ = some (.int .i64 v) ∧ wr.cell? ⟨w.heap.size + 1 + 1 + 1, 2, none⟩ = some sv ∧ wr.frozen? ⟨w.heap.size + 1 + 1 + 1, 0, none⟩ = false ∧ wr.frozen? ⟨w.heap.size + 1 + 1 + 1, 1, none⟩ = false ∧ wr.frozen? ⟨w.heap.size + 1 + 1 + 1, 2, none⟩ = false ∧ w.heap.size + 1 + 1 + 1 < wr.heap.size := by
 obtain ⟨a0, a1, a2⟩ := box3 h.vb
 exact ⟨a0, a1, a2, froz h.vb, froz h.vb, froz h.vb, lt_of_block h.vb⟩
theorem blk_al {W : World} {k : Nat} {ob : Obj} (o : Obj) (h : W.heap[k]? = some ob) : (W.alloc o).heap[k]? = some ob := ((one_new W o).block k (lt_of_block h)).trans h
theorem FV.start (w : World) (s : ByteArray) (a : Nat) (e : Int) : FV w ((((w.alloc (.cells #[.string s, .int .i64 a, .int .i64 e] 88)).alloc (.cells #[.string ByteArray.empty, .int .i64 0, .int .i64 0] 88)).alloc (.cells #[.int .i64 0, .int .i64 0, .slice none 0 0] 105)).alloc (.cells #[.int .i64 0, .int .i64 0, .slice none 0 0] 105)) s a e 0 0 (.slice none 0 0) [] := by
 refine ⟨(one_new w _).trans (((one_new _ _).trans (((one_new _ _).trans ((one_new _ _).mono (by simp))).mono (by simp))).mono (by simp)), blk_al _ (blk_al _ (blk_al _ (heap_alloc_new _ _))), blk_al _ (blk_al _ ?_), blk_al _ ?_, ?_, World.ownsRow_nil _ _ _ _⟩
 ·have := heap_alloc_new (w.alloc (.cells #[.string s, .int .i64 a, .int .i64 e] 88)) (.cells #[.string ByteArray.empty, .int .i64 0, .int .i64 0] 88)
  rw [World.size_alloc] at this
  exact this
 ·have := heap_alloc_new ((w.alloc (.cells #[.string s, .int .i64 a, .int .i64 e] 88)).alloc (.cells #[.string ByteArray.empty, .int .i64 0, .int .i64 0] 88)) (.cells #[.int .i64 0, .int .i64 0, .slice none 0 0] 105)
  rw [World.size_alloc, World.size_alloc] at this
  exact this
 ·have := heap_alloc_new (((w.alloc (.cells #[.string s, .int .i64 a, .int .i64 e] 88)).alloc (.cells #[.string ByteArray.empty, .int .i64 0, .int .i64 0] 88)).alloc (.cells #[.int .i64 0, .int .i64 0, .slice none 0 0] 105)) (.cells #[.int .i64 0, .int .i64 0, .slice none 0 0] 105)
  rw [World.size_alloc, World.size_alloc, World.size_alloc] at this
  exact this
end
end
theorem f_new {w w1 : World} {x : Obj} (h : Below (w.alloc x).heap.size (w.alloc x) w1) : w1.heap[w.heap.size]? = some x ∧ w.heap.size < w1.heap.size := by
 have hl : w.heap.size < (w.alloc x).heap.size := by rw [World.size_alloc]; omega
 exact ⟨(h.block _ hl).trans (heap_alloc_new _ _), Nat.lt_of_lt_of_le hl h.size⟩
theorem f_two {W : World} {b : Nat} {t : TypeId} {x y : Value} (h : W.heap[b]? = some (.cells #[x, y] t (0, 0))) : W.cell? ⟨b, 0, none⟩ = some x ∧ W.cell? ⟨b, 1, none⟩ = some y ∧ W.frozen? ⟨b, 0, none⟩ = false ∧ W.frozen? ⟨b, 1, none⟩ = false := by
 refine ⟨?_, ?_, froz h, froz h⟩ <;> simp [World.cell?, h]
theorem f_set2 {w : World} {b : Nat} {t : TypeId} {u0 u1 : Value} (h : w.heap[b]? = some (.cells #[u0, u1] t (0, 0))) (a c : Value) : ((w.setCell ⟨b, 0, none⟩ a).setCell ⟨b, 1, none⟩ c).heap[b]? = some (.cells #[a, c] t (0, 0)) := by
 have hs : ∀ {w : World} {i : Nat} {cs : Array Value} (v : Value), w.heap[b]? = some (.cells cs t (0, 0)) → (w.setCell ⟨b, i, none⟩ v).heap[b]? = some (.cells (cs.setIfInBounds i v) t (0, 0)) := by
  intro w i cs v h
  have hlt := lt_of_block h
  have h' : w.heap[b] = .cells cs t (0, 0) := by simpa [Array.getElem?_eq_getElem hlt] using h
  show (w.heap.modify b _)[b]? = _
  rw [Array.getElem?_eq_getElem (by simpa using hlt), Array.getElem_modify_self, h']
  rfl
 exact hs c (hs a h)
theorem sizeFR : (Tryz.prog.info? 88).map (·.size) = some 3 := by kernel_rfl
theorem sizeFV : (Tryz.prog.info? 105).map (·.size) = some 3 := by kernel_rfl
theorem res_cc {fn : Func} {p q : Tmp} {ty tz : TypeId} (h : fn.results = #[.cell p ty, .cell q tz]) (tmps : Array Value) (w : World) (g g' : Nat) (t t' : TypeId) (cs cs' : Array Value) (d d' : TypeDesc)
  (hp : tmps.getD p undef = .pointer (some ⟨g, 0, none⟩)) (hq : tmps.getD q undef = .pointer (some ⟨g', 0, none⟩)) (hg : w.heap[g]? = some (.cells cs t (0, 0))) (hg' : w.heap[g']? = some (.cells cs' t' (0, 0)))
  (hu : Tryz.prog.underlying ty = some d) (hd : ∃ fs, d = .struct fs) (hi : (Tryz.prog.info? ty).map (·.size) = some cs.size) (hu' : Tryz.prog.underlying tz = some d') (hd' : ∃ fs, d' = .struct fs) (hi' : (Tryz.prog.info? tz).map (·.size) = some cs'.size) :
  (results fn tmps).run Tryz.prog w = .ok (.tuple #[.agg cs, .agg cs']) w := by
 obtain ⟨fs, rfl⟩ := hd
 obtain ⟨fs', rfl⟩ := hd'
 have h1 := run_loadVar_row (P := Tryz.prog) w g t ty cs (0, 0) _ hg hu rfl hi
 have h2 := run_loadVar_row (P := Tryz.prog) w g' t' tz cs' (0, 0) _ hg' hu' rfl hi'
 have hp' : tmps[p]?.getD undef = .pointer (some ⟨g, 0, none⟩) := by simpa using hp
 have hq' : tmps[q]?.getD undef = .pointer (some ⟨g', 0, none⟩) := by simpa using hq
 simp [results, h, hp', hq', asAddr, h1, h2]
set_option maxHeartbeats 1200000 in
theorem ftakevertex_any {s : ByteArray} {a : Nat} {e : Int} (w : World) (hs : s.size ≤ maxLen) (ha : a ≤ s.size) :
  Calls Tryz.prog 67 #[.agg #[.string s, .int .i64 a, .int .i64 e]] w fun r w' => ∃ eo m ec, r = .returned (.tuple #[.agg #[.string s, .int .i64 (rdV s a e).2.1, .int .i64 (rdV s a e).2.2], .agg #[.int .i64 (rdV s a e).1.id, .int .i64 (rdV s a e).1.val, .slice eo m ec]]) ∧ ((rdV s a e).2.2 = 0 → m = (rdV s a e).1.es.length ∧ EdAt w' (fun k => w.heap.size ≤ k) eo (rdV s a e).1.es) ∧ Below w.heap.size w w' := by
 obtain ⟨i0, hi, hz0, hz1, hz2⟩ := info_parts infoREdge
 obtain ⟨⟨t, a1, e1⟩, h1⟩ : ∃ q, rdNum s a e = q := ⟨_, rfl⟩
 obtain ⟨⟨u, a2, e2⟩, h2⟩ : ∃ q, rdNum s a1 e1 = q := ⟨_, rfl⟩
 obtain ⟨⟨n, a3, e3⟩, h3⟩ : ∃ q, rdCount s a2 e2 (2048 : Nat) = q := ⟨_, rfl⟩
 have g1 := rdNum_to ha h1
 have g2 := rdNum_to g1.1 h2
 have g3 := rdCount_to (most := 2048) g2.1 h3
 have HV : Hid (rdV s a e = (⟨unfoldN t, unfoldN u, (rdEs s n a3 e3).1⟩, (rdEs s n a3 e3).2)) := by
  show _ = _
  unfold rdV; simp only [h1, h2]; rw [show rdCount s a2 e2 2048 = (n, a3, e3) from h3]
 have H1 : Hid _ := h1
 have H2 : Hid _ := h2
 have H3 : Hid _ := h3
 have hn := g3.2.1
 have G1 : Hid _ := g1
 have G2 : Hid _ := g2
 have G3 : Hid _ := g3
 rw [HV.out]
 have HF0 : Hid _ := FV.start w s a e
 clear h1 h2 h3 g1 g2 g3
 go_enter Tryz.func67, Tryz.ntmps67
 go_wp2_with (first
  | (go_at_call 41; first
   | (have := hF1; refine (fsg_to _ hs G1.out.1 H2.out).mono ?_; rintro r w2 ⟨rfl, hb2⟩; have hF2 := ((hF1.r0 s a1 e1).v0 (unfoldN t)).new hb2; obtain ⟨c0, c1, c2, c3, c4, c5⟩ := hF2.rf; obtain ⟨d0, d1, d2, d3, d4, d5, d6⟩ := hF2.vf; clear hF1 hb2)
   | (refine (fsg_to _ hs ha H1.out).mono ?_; rintro r w1 ⟨rfl, hb1⟩; have hF1 := HF0.out.new hb1; obtain ⟨c0, c1, c2, c3, c4, c5⟩ := hF1.rf; obtain ⟨d0, d1, d2, d3, d4, d5, d6⟩ := hF1.vf; clear hb1))
  | (go_at_call 40; refine (fct_to (most := 2048) _ hs G2.out.1 (by decide) H3.out).mono ?_; rintro r w3 ⟨rfl, hb3⟩; have hF3 := ((hF2.r0 s a2 e2).v1 (unfoldN u)).new hb3; obtain ⟨f0, f1, f2, f3, f4, f5⟩ := hF3.rf; clear hF2 hb3))
 have HF3 : Hid _ := hF3.r0 s a3 e3
 clear hF3 f0 f1 f2 f3 f4 f5 c0 c1 c2 c3 c4 c5 d0 d1 d2 d3 d4 d5 d6 HF0
 go_loopw [6] (fun i wr => ∃ (j : Nat) (sv : Value) (L : List Ed) (x : Nat) (y : Int), j ≤ n ∧ i = .int .i64 j ∧ Hid (x ≤ s.size ∧ L.length = j) ∧ Hid ((y = 0 → rdEs s n a3 e3 = (L ++ (rdEs s (n - j) x 0).1, (rdEs s (n - j) x 0).2)) ∧ (y ≠ 0 → (rdEs s n a3 e3).2 = (x, y))) ∧ FV w wr s x y (unfoldN t) (unfoldN u) sv L) (fun i _ => n - (intOf i).toNat)
 case atStart =>
  refine ⟨0, _, [], a3, e3, Nat.zero_le _, rfl, ⟨G3.out.1, rfl⟩, ⟨fun h => ?_, fun h => ?_⟩, HF3.out⟩
  ·rw [h]; simp
  ·obtain rfl : n = 0 := Nat.eq_zero_of_not_pos (fun hp => h (G3.out.2.2.2 hp))
   rfl
 case round =>
  obtain ⟨j, sv, L, x, y, hj, rfl, HX, HS, hT⟩ := hrel
  obtain ⟨ao, m, c, rfl⟩ := own_any hT.own
  obtain ⟨c0, c1, c2, c3, c4, c5⟩ := hT.rf
  obtain ⟨d0, d1, d2, d3, d4, d5, d6⟩ := hT.vf
  by_cases hjn : j < n
  ·by_cases hy : y = 0
   ·subst hy
    obtain ⟨⟨t1, x1, y1⟩, q1⟩ : ∃ q, rdNum s x 0 = q := ⟨_, rfl⟩
    obtain ⟨⟨t2, x2, y2⟩, q2⟩ : ∃ q, rdNum s x1 y1 = q := ⟨_, rfl⟩
    have g1 := rdNum_to HX.out.1 q1
    have g2 := rdNum_to g1.1 q2
    have Q1 : Hid _ := q1
    have Q2 : Hid _ := q2
    have GG1 : Hid _ := g1
    have GG2 : Hid _ := g2
    have hFe := hT.al (.cells #[.int .i64 0, .int .i64 0] 108)
    have NE : Hid (∀ b, wr.heap.size ≤ b → Value.ownBlock (.slice ao m c) ≠ some b) := fun b hb => hT.ne' hb
    have hlb : w.heap.size + 1 + 1 + 1 < wr.heap.size := lt_of_block hT.vb
    clear q1 q2 g1 g2 c0 c1 c3 c4 c5 d0 d1 d2 d3 d4 d5
    obtain ⟨z0, z1, z2, z3, z4, z5⟩ := hFe.rf
    go_upto_region 10 with (go_at_call 41; refine (fsg_to _ hs HX.out.1 Q1.out).mono ?_; rintro r w1 ⟨rfl, hb1⟩)
    obtain ⟨eb1, el1⟩ := f_new hb1
    generalize hW : World.alloc _ _ = W1
    have hF1 : FV w W1 s x 0 (unfoldN t) (unfoldN u) (.slice ao m c) L := by
     rw [← hW]
     exact (hFe.new hb1).al _
    have hE1 : W1.heap[wr.heap.size]? = some (.cells #[.int .i64 0, .int .i64 0] 108 (0, 0)) := by
     rw [← hW]
     exact blk_al _ eb1
    have hK1 : W1.heap[w1.heap.size]? = some (.cells #[.string s, .int .i64 x1, .int .i64 y1] 88 (0, 0)) := by
     rw [← hW]
     exact heap_alloc_new _ _
    clear hW hFe hb1 eb1 z0 z1 z2 z3 z4 z5 c2 d6
    obtain ⟨kb, hkb⟩ : ∃ kb, w1.heap.size = kb := ⟨_, rfl⟩
    obtain ⟨eb, heb⟩ : ∃ eb, wr.heap.size = eb := ⟨_, rfl⟩
    rw [hkb] at hK1 el1 ⊢
    rw [heb] at hE1 el1 NE hlb ⊢
    clear hkb heb
    obtain ⟨c0, c1, c2⟩ := box3 hK1
    have HF1 : Hid _ := hF1
    have HE1 : Hid _ := hE1
    have HK1 : Hid _ := hK1
    clear hF1 hE1 hK1
    go_upto_region 11 with (go_at_call 41; refine (fsg_to _ hs GG1.out.1 Q2.out).mono ?_; rintro r w2 ⟨rfl, hb2⟩; have kk2 := (hb2.block kb (lt_of_block HK1.out)).trans HK1.out; obtain ⟨p0, p1, p2⟩ := box3 kk2; have p3 := froz (o := 0) kk2; have p4 := froz (o := 1) kk2; have p5 := froz (o := 2) kk2; have HK2 : Hid _ := kk2; clear kk2)
    generalize hW2 : World.setCell _ _ _ = W2
    have hF2 : FV w W2 s x 0 (unfoldN t) (unfoldN u) (.slice ao m c) L := by
     rw [← hW2]
     have hn := NE.out kb (by omega)
     exact (((FV.new HF1.out hb2).oth _ (by omega) hn).oth _ (by omega) hn).oth _ (by omega) hn
    have hE2 : W2.heap[eb]? = some (.cells #[.int .i64 0, .int .i64 0] 108 (0, 0)) := by
     rw [← hW2]
     exact blk_set (blk_set (blk_set ((hb2.block eb (lt_of_block HE1.out)).trans HE1.out) (by omega)) (by omega)) (by omega)
    have hK2 : W2.heap[kb]? = some (.cells #[.string s, .int .i64 x2, .int .i64 y2] 88 (0, 0)) := by
     rw [← hW2]
     exact set3_2 (set3_1 (set3_0 HK2.out _) _) _
    clear hW2 hb2 c0 c1 c2 p0 p1 p2 p3 p4 p5 HF1 HE1 HK1 HK2
    obtain ⟨c0, c1, c2⟩ := box3 hK2
    obtain ⟨p0, p1, p2, p3⟩ := f_two hE2
    obtain ⟨z0, z1, z2, z3, z4, z5⟩ := hF2.rf
    have HF2 : Hid _ := hF2
    have HE2 : Hid _ := hE2
    clear hF2 hE2 hK2
    go_upto_region 12 with fail
    generalize hW3 : World.setCell _ _ _ = W3
    have hF3 : FV w W3 s x2 y2 (unfoldN t) (unfoldN u) (.slice ao m c) L := by
     rw [← hW3]
     have hn := NE.out eb (Nat.le_refl _)
     exact ((FV.r0 HF2.out s x2 y2).oth _ (by omega) hn).oth _ (by omega) hn
    have hE3 : W3.heap[eb]? = some (.cells #[.int .i64 (unfoldN t1), .int .i64 (unfoldN t2)] 108 (0, 0)) := by
     rw [← hW3]
     exact f_set2 (blk_set (blk_set (blk_set HE2.out (by omega)) (by omega)) (by omega)) _ _
    clear hW3 c0 c1 c2 p0 p1 p2 p3 z0 z1 z2 z3 z4 z5 HF2 HE2
    obtain ⟨p0, p1, p2, p3⟩ := f_two hE3
    obtain ⟨z0, z1, z2, z3, z4, z5, z6⟩ := hF3.vf
    have HF3 : Hid _ := hF3
    clear hF3
    go_wp2_with (at_builtin; refine wpList_append_own_at _ rfl _ _ 103 rfl (w.heap.size + 1 + 1 + 1 + 1) 108 i0 (.agg #[.int .i64 0, .int .i64 0]) 2 16 Tryz.underlying103 hi hz0 hz1 hz2 rfl (by decide) _ _ _ rfl (FV.al HF3.out _).own ⟨W3.heap.size, 0, none⟩ 1 1 [.int .i64 (unfoldN t1), .int .i64 (unfoldN t2)] rfl rfl ?c1 ?c2 ?c3 ?c4 ?c5 ?_)
    case c1 => exact two_new (heap_alloc_new _ _)
    case c2 => intro u hu; simp at hu; rcases hu with rfl | rfl <;> rfl
    case c3 => have := HX.out.2; unfold maxLen; omega
    case c4 => have := HX.out.2; omega
    case c5 => have := lt_of_block (FV.vb HF3.out); simp; omega
    ·intro v' w4 hown' hgrow _ _
     have hF4 := (FV.al HF3.out _).app hown' hgrow
     obtain ⟨k2, k3⟩ := (FV.al HF3.out _).grew hgrow
     obtain ⟨ao', m', c', rfl⟩ := own_any hown'
     have HF4 : Hid _ := hF4
     clear hF4 hown' hgrow z0 z1 z2 z3 z4 z5 z6 p0 p1 p2 p3
     go_wp2
     go_roundw
     case rel =>
      refine ⟨j + 1, _, _, x2, y2, by omega, by go_num, ⟨GG2.out.1, by have := HX.out.2; simp; omega⟩, ⟨fun h0 => ?_, fun h0 => ?_⟩, HF4.out⟩
      ·subst h0
       rw [HS.out.1 (by first | rfl | trivial), show n - j = (n - (j + 1)) + 1 by omega, rdEs_go Q1.out Q2.out]
       simp
      ·rw [HS.out.1 (by first | rfl | trivial), show n - j = (n - (j + 1)) + 1 by omega, rdEs_bad Q1.out Q2.out h0]
     case measure => simp [intOf]; omega
   ·have hy0 : (y == 0) = false := by rw [beq_eq_false_iff_ne]; exact hy
    go_upto_region 13 with fail
    obtain ⟨p0, p1, p2⟩ := box3 hT.q1
    have p3 := froz (o := 0) hT.q1
    have p4 := froz (o := 1) hT.q1
    have p5 := froz (o := 2) hT.q1
    obtain ⟨r0, r1, r2⟩ := box3 hT.q2
    have r3 := froz (o := 0) hT.q2
    have r4 := froz (o := 1) hT.q2
    have r5 := froz (o := 2) hT.q2
    have HT : Hid _ := hT
    clear hT
    go_region
    all_goals
     generalize hW : World.setCell _ _ _ = W
     have b1 : W.heap[w.heap.size + 1]? = some (.cells #[.string s, .int .i64 x, .int .i64 y] 88 (0, 0)) := by
      rw [← hW]
      first
       | with_reducible exact blk_set (blk_set (blk_set (set3_2 (set3_1 (set3_0 (FV.q1 HT.out) _) _) _) (by omega)) (by omega)) (by omega)
       | with_reducible exact set3_2 (set3_1 (set3_0 (blk_set (blk_set (blk_set (FV.q1 HT.out) (by omega)) (by omega)) (by omega)) _) _) _
     have b2 : W.heap[w.heap.size + 1 + 1]? = some (.cells #[.int .i64 (unfoldN t), .int .i64 (unfoldN u), .slice ao m c] 105 (0, 0)) := by
      rw [← hW]
      first
       | with_reducible exact set3_2 (set3_1 (set3_0 (blk_set (blk_set (blk_set (FV.q2 HT.out) (by omega)) (by omega)) (by omega)) _) _) _
       | with_reducible exact blk_set (blk_set (blk_set (set3_2 (set3_1 (set3_0 (FV.q2 HT.out) _) _) _) (by omega)) (by omega)) (by omega)
     have f1 : Fr wr W (fun k => k = w.heap.size + 1 ∨ k = w.heap.size + 1 + 1) := by
      rw [← hW]
      have hs1 : ∀ (w' : World) (o : Nat) (u : Value), Fr w' (w'.setCell ⟨w.heap.size + 1, o, none⟩ u) (fun k => k = w.heap.size + 1 ∨ k = w.heap.size + 1 + 1) := fun w' o u => Fr.setCell (S := fun k => k = w.heap.size + 1 ∨ k = w.heap.size + 1 + 1) w' ⟨w.heap.size + 1, o, none⟩ u (Or.inl rfl)
      have hs2 : ∀ (w' : World) (o : Nat) (u : Value), Fr w' (w'.setCell ⟨w.heap.size + 1 + 1, o, none⟩ u) (fun k => k = w.heap.size + 1 ∨ k = w.heap.size + 1 + 1) := fun w' o u => Fr.setCell (S := fun k => k = w.heap.size + 1 ∨ k = w.heap.size + 1 + 1) w' ⟨w.heap.size + 1 + 1, o, none⟩ u (Or.inr rfl)
      first
       | with_reducible exact (((((hs1 _ _ _).trans (hs1 _ _ _) (fun _ _ h => h)).trans (hs1 _ _ _) (fun _ _ h => h)).trans (hs2 _ _ _) (fun _ _ h => h)).trans (hs2 _ _ _) (fun _ _ h => h)).trans (hs2 _ _ _) (fun _ _ h => h)
       | with_reducible exact (((((hs2 _ _ _).trans (hs2 _ _ _) (fun _ _ h => h)).trans (hs2 _ _ _) (fun _ _ h => h)).trans (hs1 _ _ _) (fun _ _ h => h)).trans (hs1 _ _ _) (fun _ _ h => h)).trans (hs1 _ _ _) (fun _ _ h => h)
     have hlow := FV.low HT.out
     have hlow2 : Below w.heap.size w W.drew := (hlow.trans (f1.below hlow.size (fun k hk => by omega))).drew
     obtain ⟨hm, hEd⟩ := own_eds (FV.own HT.out)
     have b1' : W.drew.heap[w.heap.size + 1]? = some (.cells #[.string s, .int .i64 x, .int .i64 y] 88 (0, 0)) := b1
     have b2' : W.drew.heap[w.heap.size + 1 + 1]? = some (.cells #[.int .i64 (unfoldN t), .int .i64 (unfoldN u), .slice ao m c] 105 (0, 0)) := b2
     clear c0 c1 c2 c3 c4 c5 d0 d1 d2 d3 d4 d5 d6 p0 p1 p2 p3 p4 p5 r0 r1 r2 r3 r4 r5 hW
     go_wp2
     refine bodyPost_ret (v := .tuple #[.agg #[.string s, .int .i64 x, .int .i64 y], .agg #[.int .i64 (unfoldN t), .int .i64 (unfoldN u), .slice ao m c]]) (res_cc Tryz.results67 _ _ (w.heap.size + 1) (w.heap.size + 1 + 1) 88 105 _ _ _ _ rfl rfl b1' b2' Tryz.underlying88 ⟨_, rfl⟩ sizeFR Tryz.underlying105 ⟨_, rfl⟩ sizeFV) rfl ?_
     subst hm
     rw [HS.out.2 hy]
     exact ⟨ao, _, c, rfl, fun h => absurd h hy, hlow2⟩
  ·obtain rfl : j = n := by omega
   have HE0 : Hid ((y = 0 → rdEs s j a3 e3 = (L, x, 0)) ∧ (y ≠ 0 → (rdEs s j a3 e3).2 = (x, y))) := ⟨fun h => by rw [HS.out.1 h]; simp [rdEs], HS.out.2⟩
   go_upto_region 13 with fail
   obtain ⟨p0, p1, p2⟩ := box3 hT.q1
   have p3 := froz (o := 0) hT.q1
   have p4 := froz (o := 1) hT.q1
   have p5 := froz (o := 2) hT.q1
   obtain ⟨r0, r1, r2⟩ := box3 hT.q2
   have r3 := froz (o := 0) hT.q2
   have r4 := froz (o := 1) hT.q2
   have r5 := froz (o := 2) hT.q2
   have HT : Hid _ := hT
   clear hT
   go_region
   all_goals
    generalize hW : World.setCell _ _ _ = W
    have b1 : W.heap[w.heap.size + 1]? = some (.cells #[.string s, .int .i64 x, .int .i64 y] 88 (0, 0)) := by
     rw [← hW]
     first
      | with_reducible exact blk_set (blk_set (blk_set (set3_2 (set3_1 (set3_0 (FV.q1 HT.out) _) _) _) (by omega)) (by omega)) (by omega)
      | with_reducible exact set3_2 (set3_1 (set3_0 (blk_set (blk_set (blk_set (FV.q1 HT.out) (by omega)) (by omega)) (by omega)) _) _) _
    have b2 : W.heap[w.heap.size + 1 + 1]? = some (.cells #[.int .i64 (unfoldN t), .int .i64 (unfoldN u), .slice ao m c] 105 (0, 0)) := by
     rw [← hW]
     first
      | with_reducible exact set3_2 (set3_1 (set3_0 (blk_set (blk_set (blk_set (FV.q2 HT.out) (by omega)) (by omega)) (by omega)) _) _) _
      | with_reducible exact blk_set (blk_set (blk_set (set3_2 (set3_1 (set3_0 (FV.q2 HT.out) _) _) _) (by omega)) (by omega)) (by omega)
    have f1 : Fr wr W (fun k => k = w.heap.size + 1 ∨ k = w.heap.size + 1 + 1) := by
     rw [← hW]
     have hs1 : ∀ (w' : World) (o : Nat) (u : Value), Fr w' (w'.setCell ⟨w.heap.size + 1, o, none⟩ u) (fun k => k = w.heap.size + 1 ∨ k = w.heap.size + 1 + 1) := fun w' o u => Fr.setCell (S := fun k => k = w.heap.size + 1 ∨ k = w.heap.size + 1 + 1) w' ⟨w.heap.size + 1, o, none⟩ u (Or.inl rfl)
     have hs2 : ∀ (w' : World) (o : Nat) (u : Value), Fr w' (w'.setCell ⟨w.heap.size + 1 + 1, o, none⟩ u) (fun k => k = w.heap.size + 1 ∨ k = w.heap.size + 1 + 1) := fun w' o u => Fr.setCell (S := fun k => k = w.heap.size + 1 ∨ k = w.heap.size + 1 + 1) w' ⟨w.heap.size + 1 + 1, o, none⟩ u (Or.inr rfl)
     first
      | with_reducible exact (((((hs1 _ _ _).trans (hs1 _ _ _) (fun _ _ h => h)).trans (hs1 _ _ _) (fun _ _ h => h)).trans (hs2 _ _ _) (fun _ _ h => h)).trans (hs2 _ _ _) (fun _ _ h => h)).trans (hs2 _ _ _) (fun _ _ h => h)
      | with_reducible exact (((((hs2 _ _ _).trans (hs2 _ _ _) (fun _ _ h => h)).trans (hs2 _ _ _) (fun _ _ h => h)).trans (hs1 _ _ _) (fun _ _ h => h)).trans (hs1 _ _ _) (fun _ _ h => h)).trans (hs1 _ _ _) (fun _ _ h => h)
    have hlow := FV.low HT.out
    have hlow2 : Below w.heap.size w W.drew := (hlow.trans (f1.below hlow.size (fun k hk => by omega))).drew
    obtain ⟨hm, hEd⟩ := own_eds (FV.own HT.out)
    have b1' : W.drew.heap[w.heap.size + 1]? = some (.cells #[.string s, .int .i64 x, .int .i64 y] 88 (0, 0)) := b1
    have b2' : W.drew.heap[w.heap.size + 1 + 1]? = some (.cells #[.int .i64 (unfoldN t), .int .i64 (unfoldN u), .slice ao m c] 105 (0, 0)) := b2
    clear c0 c1 c2 c3 c4 c5 d0 d1 d2 d3 d4 d5 d6 p0 p1 p2 p3 p4 p5 r0 r1 r2 r3 r4 r5 hW
    go_wp2
    refine bodyPost_ret (v := .tuple #[.agg #[.string s, .int .i64 x, .int .i64 y], .agg #[.int .i64 (unfoldN t), .int .i64 (unfoldN u), .slice ao m c]]) (res_cc Tryz.results67 _ _ (w.heap.size + 1) (w.heap.size + 1 + 1) 88 105 _ _ _ _ rfl rfl b1' b2' Tryz.underlying88 ⟨_, rfl⟩ sizeFR Tryz.underlying105 ⟨_, rfl⟩ sizeFV) rfl ?_
    subst hm
    by_cases hy : y = 0
    ·subst hy
     rw [HE0.out.1 rfl]
     refine ⟨ao, _, c, rfl, fun _ => ⟨rfl, ?_⟩, hlow2⟩
     exact EdAt.new (hEd.kept f1 (fun k hk hp => ⟨by have := hp.1; omega, by have := hp.1; omega⟩)) ((Below.refl _ _).drew)
    ·rw [HE0.out.2 hy]
     exact ⟨ao, _, c, rfl, fun h => absurd h hy, hlow2⟩
section
structure FT (w wr : World) (s : ByteArray) (x : Nat) (y : Int) : Prop where
 low : Below w.heap.size w wr
 rb : wr.heap[w.heap.size]? = some (.cells #[.string s, .int .i64 x, .int .i64 y] 88 (0, 0))
 qb : wr.heap[w.heap.size + 1]? = some (.cells #[.string ByteArray.empty, .int .i64 0, .int .i64 0] 88 (0, 0))
section
variable {w wr w1 : World} {s : ByteArray} {x : Nat} {y : Int}
theorem FT.new (h : FT w wr s x y) (hb : Below wr.heap.size wr w1) : FT w w1 s x y :=
 ⟨h.low.trans (hb.mono h.low.size), (hb.block _ (lt_of_block h.rb)).trans h.rb, (hb.block _ (lt_of_block h.qb)).trans h.qb⟩
theorem FT.kept (h : FT w wr s x y) {S : Nat → Prop} (f : Fr wr w1 S) (hS : ∀ k, S k → w.heap.size + 1 + 1 ≤ k) : FT w w1 s x y :=
 ⟨h.low.trans (f.below h.low.size (fun k hk => by have := hS k hk; omega)), (f.block _ (lt_of_block h.rb) (fun hk => by have := hS _ hk; omega)).trans h.rb, (f.block _ (lt_of_block h.qb) (fun hk => by have := hS _ hk; omega)).trans h.qb⟩
theorem FT.r0 (h : FT w wr s x y) (x' : Nat) (y' : Int) : FT w (((wr.setCell ⟨w.heap.size, 0, none⟩ (.string s)).setCell ⟨w.heap.size, 1, none⟩ (.int .i64 x')).setCell ⟨w.heap.size, 2, none⟩ (.int .i64 y')) s x' y' :=
 ⟨low_set (low_set (low_set h.low _ (Nat.le_refl _)) _ (Nat.le_refl _)) _ (Nat.le_refl _), set3_2 (set3_1 (set3_0 h.rb _) _) _, blk_set (blk_set (blk_set h.qb (by omega)) (by omega)) (by omega)⟩
theorem FT.rf (h : FT w wr s x y) : wr.cell? ⟨w.heap.size, 0, none⟩ = some (.string s) ∧ wr.cell? ⟨w.heap.size, 1, none⟩ = some (.int .i64 x) ∧ wr.cell? ⟨w.heap.size, 2, none⟩ = some (.int .i64 y) ∧ wr.frozen? ⟨w.heap.size, 0, none⟩ = false ∧ wr.frozen? ⟨w.heap.size, 1, none⟩ = false ∧ wr.frozen? ⟨w.heap.size, 2, none⟩ = false ∧ w.heap.size < wr.heap.size := by
 obtain ⟨a0, a1, a2⟩ := box3 h.rb
 exact ⟨a0, a1, a2, froz h.rb, froz h.rb, froz h.rb, lt_of_block h.rb⟩
theorem fr_r3 (wr : World) (b : Nat) (u0 u1 u2 : Value) : Fr wr (((wr.setCell ⟨b, 0, none⟩ u0).setCell ⟨b, 1, none⟩ u1).setCell ⟨b, 2, none⟩ u2) (fun k => k = b) :=
 ((Fr.setCell (S := fun k => k = b) wr ⟨b, 0, none⟩ u0 rfl).trans (Fr.setCell (S := fun k => k = b) _ ⟨b, 1, none⟩ u1 rfl) (fun _ _ h => h)).trans (Fr.setCell (S := fun k => k = b) _ ⟨b, 2, none⟩ u2 rfl) (fun _ _ h => h)
end
theorem f_three (w : World) (x y z : Obj) : (((w.alloc x).alloc y).alloc z).heap[w.heap.size]? = some x ∧ (((w.alloc x).alloc y).alloc z).heap[w.heap.size + 1]? = some y ∧ Below w.heap.size w (((w.alloc x).alloc y).alloc z) := by
 have h1 : ((w.alloc x).alloc y).heap[w.heap.size + 1]? = some y := by
  have := heap_alloc_new (w.alloc x) y
  rw [World.size_alloc] at this
  exact this
 have b1 := one_new w x
 have b2 := b1.alloc b1.size y
 exact ⟨blk_al _ (blk_al _ (heap_alloc_new _ _)), blk_al _ h1, b2.alloc b2.size z⟩
theorem FT.start (w : World) (s : ByteArray) (a : Nat) (e : Int) (z : Obj) : FT w (((w.alloc (.cells #[.string s, .int .i64 a, .int .i64 e] 88)).alloc (.cells #[.string ByteArray.empty, .int .i64 0, .int .i64 0] 88)).alloc z) s a e :=
 ⟨(f_three w _ _ _).2.2, (f_three w _ _ _).1, (f_three w _ _ _).2.1⟩
theorem f_rc {fn : Func} {p u : Tmp} {ty : TypeId} (h : fn.results = #[.cell p ty, .tmp u]) (tmps : Array Value) (w : World) (g : Nat) (t : TypeId) (cs : Array Value) (d : TypeDesc)
  (hp : tmps.getD p undef = .pointer (some ⟨g, 0, none⟩)) (hg : w.heap[g]? = some (.cells cs t (0, 0)))
  (hu : Tryz.prog.underlying ty = some d) (hd : ∃ fs, d = .struct fs) (hi : (Tryz.prog.info? ty).map (·.size) = some cs.size) :
  (results fn tmps).run Tryz.prog w = .ok (.tuple #[.agg cs, tmps.getD u undef]) w := by
 obtain ⟨fs, rfl⟩ := hd
 rw [results_cell_tmp h, hp]
 have := run_loadVar_row (P := Tryz.prog) w g t ty cs (0, 0) _ hg hu rfl hi
 simp [asAddr, this]
theorem ftv_to {s : ByteArray} {a x : Nat} {e y : Int} {v : Vx} (w : World) (hs : s.size ≤ maxLen) (ha : a ≤ s.size) (hq : rdV s a e = (v, x, y)) :
  Calls Tryz.prog 67 #[.agg #[.string s, .int .i64 a, .int .i64 e]] w fun r w' => ∃ eo m ec, r = .returned (.tuple #[.agg #[.string s, .int .i64 x, .int .i64 y], .agg #[.int .i64 v.id, .int .i64 v.val, .slice eo m ec]]) ∧ (y = 0 → m = v.es.length ∧ EdAt w' (fun k => w.heap.size ≤ k) eo v.es) ∧ Below w.heap.size w w' := by
 have := ftakevertex_any (e := e) w hs ha; rw [hq] at this; exact this
theorem gs_bad {s : ByteArray} {n a x x1 j : Nat} {e y1 : Int} {G : List Vx} {v : Vx} (hj : j < n) (h : rdVs s n a e = (G ++ (rdVs s (n - j) x 0).1, (rdVs s (n - j) x 0).2)) (q : rdV s x 0 = (v, x1, y1)) (hy : y1 ≠ 0) : (rdVs s n a e).2 = (x1, y1) := by
 rw [h, show n - j = (n - (j + 1)) + 1 by omega, rdVs_bad q hy]
theorem gs_go {s : ByteArray} {n a x x1 j : Nat} {e : Int} {G : List Vx} {v : Vx} (hj : j < n) (h : rdVs s n a e = (G ++ (rdVs s (n - j) x 0).1, (rdVs s (n - j) x 0).2)) (q : rdV s x 0 = (v, x1, 0)) : rdVs s n a e = ((G ++ [v]) ++ (rdVs s (n - (j + 1)) x1 0).1, (rdVs s (n - (j + 1)) x1 0).2) := by
 rw [h, show n - j = (n - (j + 1)) + 1 by omega, rdVs_go q]
 simp
set_option maxHeartbeats 1500000 in
theorem ftake_any {s : ByteArray} {a : Nat} {e : Int} (w : World) (hs : s.size ≤ maxLen) (ha : a ≤ s.size) :
  Calls Tryz.prog 39 #[.agg #[.string s, .int .i64 a, .int .i64 e]] w fun r w' => ∃ bo mm c, r = .returned (.tuple #[.agg #[.string s, .int .i64 (rdG s a e).2.1, .int .i64 (rdG s a e).2.2], .slice bo mm c]) ∧ ((rdG s a e).2.2 = 0 → mm = (rdG s a e).1.length ∧ VxAt w' (fun k => w.heap.size ≤ k) bo (rdG s a e).1) ∧ Below w.heap.size w w' := by
 obtain ⟨i0, hi, hz0, hz1, hz2⟩ := info_parts infoRVx
 obtain ⟨⟨n, a1, e1⟩, h1⟩ : ∃ q, rdCount s a e (256 : Nat) = q := ⟨_, rfl⟩
 have g1 := rdCount_to (most := 256) ha h1
 have HG : Hid (rdGs s a e = rdVs s n a1 e1) := by show _ = _; unfold rdGs; rw [show rdCount s a e 256 = (n, a1, e1) from h1]
 have H1 : Hid _ := h1
 have hn := g1.2.1
 have G1 : Hid _ := g1
 clear h1 g1
 go_enter Tryz.func39, Tryz.ntmps39
 have HST : Hid _ := FT.start w s a e (.cells #[] 105)
 have HRW : Hid _ := VRow.empty (w := (w.alloc (.cells #[.string s, .int .i64 a, .int .i64 e] 88)).alloc (.cells #[.string ByteArray.empty, .int .i64 0, .int .i64 0] 88)) (base := w.heap.size + 1 + 1) (t := 105) (by rw [World.size_alloc, World.size_alloc]; omega)
 have HST : Hid _ := FT.start w s a e (.cells #[] 105)
 have HRW : Hid _ := VRow.empty (w := (w.alloc (.cells #[.string s, .int .i64 a, .int .i64 e] 88)).alloc (.cells #[.string ByteArray.empty, .int .i64 0, .int .i64 0] 88)) (base := w.heap.size + 1 + 1) (t := 105) (by rw [World.size_alloc, World.size_alloc]; omega)
 have HST : Hid _ := FT.start w s a e (.cells #[] 105)
 have HRW : Hid _ := VRow.empty (w := (w.alloc (.cells #[.string s, .int .i64 a, .int .i64 e] 88)).alloc (.cells #[.string ByteArray.empty, .int .i64 0, .int .i64 0] 88)) (base := w.heap.size + 1 + 1) (t := 105) (by rw [World.size_alloc, World.size_alloc]; omega)
 have HST : Hid _ := FT.start w s a e (.cells #[] 105)
 have HRW : Hid _ := VRow.empty (w := (w.alloc (.cells #[.string s, .int .i64 a, .int .i64 e] 88)).alloc (.cells #[.string ByteArray.empty, .int .i64 0, .int .i64 0] 88)) (base := w.heap.size + 1 + 1) (t := 105) (by rw [World.size_alloc, World.size_alloc]; omega)
 have HST : Hid _ := FT.start w s a e (.cells #[] 105)
 have HRW : Hid _ := VRow.empty (w := (w.alloc (.cells #[.string s, .int .i64 a, .int .i64 e] 88)).alloc (.cells #[.string ByteArray.empty, .int .i64 0, .int .i64 0] 88)) (base := w.heap.size + 1 + 1) (t := 105) (by rw [World.size_alloc, World.size_alloc]; omega)
 go_upto_region 3 with (go_at_call 40; refine (fct_to (most := 256) _ hs ha (by decide) H1.out).mono ?_; rintro r w1 ⟨rfl, hb1⟩; have hF1 := FT.new HST.out hb1; obtain ⟨c0, c1, c2, c3, c4, c5, c6⟩ := hF1.rf; have HF1 : Hid _ := hF1; clear hF1)
 have hR1 := VRow.new HRW.out hb1
 rw [World.size_alloc, World.size_alloc] at hR1
 generalize hW : World.setCell _ _ _ = W0
 have hF0 : FT w W0 s a1 e1 := by
  rw [← hW]
  exact FT.r0 HF1.out a1 e1
 have hR0 : VRow W0 (w.heap.size + 1 + 1) 105 (.slice (some ⟨w.heap.size + 1 + 1, 0, none⟩) 0 0) [] := by
  rw [← hW]
  exact hR1.kept (fr_r3 _ _ _ _ _) (fun k hk h => by omega)
 have HF0 : Hid _ := hF0
 have HR0 : Hid _ := hR0
 clear hW hF0 hR0 hR1 HF1 hb1 c0 c1 c2 c3 c4 c5 c6 HST HRW
 go_wp2
 go_loopw [4, 6] (fun uu i wr => ∃ (j : Nat) (G : List Vx) (x : Nat) (y : Int) (fo : Option Addr) (m c : Nat), j ≤ n ∧ uu = .slice fo m c ∧ i = .int .i64 j ∧ Hid (x ≤ s.size ∧ (y = 0 → G.length = j ∧ ∀ v ∈ G, v.ok)) ∧ Hid ((y = 0 → rdVs s n a1 e1 = (G ++ (rdVs s (n - j) x 0).1, (rdVs s (n - j) x 0).2)) ∧ (y ≠ 0 → (rdVs s n a1 e1).2 = (x, y))) ∧ Hid (y = 0 → VRow wr (w.heap.size + 1 + 1) 105 (.slice fo m c) G) ∧ FT w wr s x y) (fun _ i _ => n - (intOf i).toNat)
 case atStart =>
  refine ⟨0, [], a1, e1, _, _, _, Nat.zero_le _, rfl, rfl, ⟨G1.out.1, fun _ => ⟨rfl, fun v hv => by cases hv⟩⟩, ⟨fun h => ?_, fun h => ?_⟩, fun _ => HR0.out, HF0.out⟩
  ·rw [h]; simp
  ·obtain rfl : n = 0 := Nat.eq_zero_of_not_pos (fun hp => h (G1.out.2.2.2 hp))
   rfl
 case round =>
  obtain ⟨j, G, x, y, fo, m, c, hj, rfl, rfl, HX, HS, HR, hF⟩ := hrel
  clear HF0 HR0
  by_cases hy : y = 0
  ·subst hy
   by_cases hjn : j < n
   ·obtain ⟨⟨v, x1, y1⟩, q1⟩ : ∃ q, rdV s x 0 = q := ⟨_, rfl⟩
    have g1 := rdV_to (e := 0) HX.out.1
    rw [q1] at g1
    have Q1 : Hid _ := q1
    have HXs : Hid (x ≤ s.size) := HX.out.1
    have GG : Hid _ := g1
    have HLg : Hid (G.length = j) := (HX.out.2 (by first | rfl | trivial)).1
    have HGo : Hid (∀ v ∈ G, v.ok) := (HX.out.2 (by first | rfl | trivial)).2
    have HSr : Hid _ := HS.out.1 (by first | rfl | trivial)
    have HRr : Hid (VRow wr (w.heap.size + 1 + 1) 105 (.slice fo m c) G) := HR.out (by first | rfl | trivial)
    obtain ⟨c0, c1, c2, c3, c4, c5, c6⟩ := hF.rf
    have HF : Hid _ := hF
    clear q1 g1 hF HX HS HR
    go_upto_region 7 with (go_at_call 67; refine (ftv_to _ hs (by exact HXs.out) Q1.out).mono ?_; rintro r w1 ⟨eo, em, ec, rfl, hE1, hb1⟩)
    have hF1 := FT.new HF.out hb1
    have hR1 := VRow.new HRr.out hb1
    have hbB := (FT.low HF.out).size
    have lwr := lt_of_block (FT.qb HF.out)
    generalize hW : World.alloc _ _ = W1
    have hF2 : FT w W1 s x 0 := by
     rw [← hW]
     exact (hF1.new (one_new _ _)).new (one_new _ _)
    have hR2 : VRow W1 (w.heap.size + 1 + 1) 105 (.slice fo m c) G := by
     rw [← hW]
     exact (hR1.new (one_new _ _)).new (one_new _ _)
    have hK2 : W1.heap[w1.heap.size]? = some (.cells #[.string s, .int .i64 x1, .int .i64 y1] 88 (0, 0)) := by
     rw [← hW]
     exact blk_al _ (heap_alloc_new _ _)
    have hV2 : W1.heap[w1.heap.size + 1]? = some (.cells #[.int .i64 v.id, .int .i64 v.val, .slice eo em ec] 105 (0, 0)) := by
     rw [← hW]
     have := heap_alloc_new (w1.alloc (.cells #[.string s, .int .i64 x1, .int .i64 y1] 88)) (.cells #[.int .i64 v.id, .int .i64 v.val, .slice eo em ec] 105)
     rw [World.size_alloc] at this
     exact this
    have hE2 : y1 = 0 → em = v.es.length ∧ EdAt W1 (fun k => wr.heap.size ≤ k) eo v.es := fun h => by
     rw [← hW]
     exact ⟨(hE1 h).1, ((hE1 h).2.new (one_new _ _)).new (one_new _ _)⟩
    have l1 := hb1.size
    clear hW hF1 hR1 hE1 hb1 c0 c1 c2 c3 c4 c5 c6
    obtain ⟨c0, c1, c2, c3, c4, c5, c6⟩ := hF2.rf
    obtain ⟨p0, p1, p2⟩ := box3 hK2
    go_upto_region 8 with fail
    generalize hW2 : World.setCell _ _ _ = W2
    have hF3 : FT w W2 s x1 y1 := by
     rw [← hW2]
     exact hF2.r0 x1 y1
    have hR3 : VRow W2 (w.heap.size + 1 + 1) 105 (.slice fo m c) G := by
     rw [← hW2]
     exact hR2.kept (fr_r3 _ _ _ _ _) (fun k hk h => by omega)
    have hV3 : W2.heap[w1.heap.size + 1]? = some (.cells #[.int .i64 v.id, .int .i64 v.val, .slice eo em ec] 105 (0, 0)) := by
     rw [← hW2]
     exact blk_set (blk_set (blk_set hV2 (by omega)) (by omega)) (by omega)
    have hE3 : y1 = 0 → em = v.es.length ∧ EdAt W2 (fun k => wr.heap.size ≤ k) eo v.es := fun h => by
     rw [← hW2]
     exact ⟨(hE2 h).1, (hE2 h).2.kept (fr_r3 _ _ _ _ _) (fun k hk hp => ⟨by omega, hp⟩)⟩
    have HF3 : Hid _ := hF3
    have HR3 : Hid _ := hR3
    have HE3 : Hid _ := hE3
    have HB : Hid (w.heap.size + 1 + 1 ≤ wr.heap.size) := by show _ ≤ _; omega
    have HLt : Hid (∀ k, (Value.slice fo m c).ownBlock = some k → k < wr.heap.size) := fun k hk => (HRr.out.lt k hk).2
    clear hW2 hF2 hR2 hV2 hE2 hK2 c0 c1 c2 c3 c4 c5 c6 p0 p1 p2 hF3 hR3 hE3
    obtain ⟨p0, p1, p2⟩ := box3 hV3
    have lv := lt_of_block hV3
    clear hV3
    by_cases hy1 : y1 = 0
    ·subst hy1
     obtain ⟨hem, hEd⟩ := HE3.out (by first | rfl | trivial)
     subst hem
     have hE4 : EdAt (W2.alloc (.cells #[.int .i64 v.id, .int .i64 v.val, .slice eo v.es.length ec] 105)) (fun k => w.heap.size + 1 + 1 ≤ k ∧ (Value.slice fo m c).ownBlock ≠ some k) eo v.es := (hEd.new (one_new _ _)).mono (fun k _ hk => ⟨Nat.le_trans HB.out hk, fun e => by have := HLt.out k e; omega⟩)
     obtain ⟨M, ho, hgo⟩ := (VRow.new HR3.out (one_new W2 (.cells #[.int .i64 v.id, .int .i64 v.val, .slice eo v.es.length ec] 105))).app (ec := ec) hE4
     have HGo2 : Hid _ := hgo
     clear hgo hE4 hEd
     go_wp2_with (at_builtin; refine wpList_append_own_at _ rfl _ _ 32 rfl (w.heap.size + 1 + 1) 105 i0 (.agg #[.int .i64 0, .int .i64 0, .slice none 0 0]) 3 40 Tryz.underlying32 hi hz0 hz1 hz2 rfl (by decide) _ _ _ rfl ho ⟨W2.heap.size, 0, none⟩ 1 1 [.int .i64 v.id, .int .i64 v.val, .slice eo v.es.length ec] rfl rfl (three_new (heap_alloc_new _ _)) (by intro u hu; simp at hu; rcases hu with rfl | rfl | rfl <;> rfl) (by have := HLg.out; unfold maxLen; omega) (by have := HLg.out; omega) (by have := lt_of_block (FT.qb HF3.out); simp; omega) ?_)
     ·intro v' w4 hown' hgrow _ hat
      have hR4 := HGo2.out w4 v' hown' hgrow (by simpa using hat)
      have hF4 := (FT.new HF3.out (one_new W2 (.cells #[.int .i64 v.id, .int .i64 v.val, .slice eo v.es.length ec] 105))).kept (Fr.grown (S := fun k => Value.ownBlock (.slice fo m c) = some k) hgrow (fun k hk => hk)) (fun k hk => (HRr.out.lt k hk).1)
      obtain ⟨ao', m', c', rfl⟩ := own_any hown'
      have HR4 : Hid _ := hR4
      have HF4 : Hid _ := hF4
      clear hR4 hF4 hown' hgrow hat ho p0 p1 p2
      go_wp2
      go_roundw
      case rel =>
       refine ⟨j + 1, G ++ [v], x1, 0, _, _, _, by omega, rfl, by go_num, ⟨GG.out.1, fun _ => ⟨by have := HLg.out; simp; omega, fun z hz => ?_⟩⟩, ⟨fun _ => gs_go hjn HSr.out Q1.out, fun h => absurd rfl h⟩, fun _ => HR4.out, HF4.out⟩
       rcases List.mem_append.1 hz with hz | hz
       ·exact HGo.out z hz
       ·obtain rfl : z = v := by simpa using hz
        exact GG.out.2.2
      case measure => simp [intOf]; omega
    ·obtain ⟨M, hl0, ho, he0⟩ := (VRow.new HR3.out (one_new W2 (.cells #[.int .i64 v.id, .int .i64 v.val, .slice eo em ec] 105))).row
     clear hl0 he0
     go_wp2_with (at_builtin; (refine wpList_append_own_at _ rfl _ _ 32 rfl (w.heap.size + 1 + 1) 105 i0 (.agg #[.int .i64 0, .int .i64 0, .slice none 0 0]) 3 40 Tryz.underlying32 hi hz0 hz1 hz2 rfl (by decide) _ _ _ rfl ho ⟨W2.heap.size, 0, none⟩ 1 1 [.int .i64 v.id, .int .i64 v.val, .slice eo em ec] rfl rfl (three_new (heap_alloc_new _ _)) (by intro u hu; simp at hu; rcases hu with rfl | rfl | rfl <;> rfl) (by have := HLg.out; unfold maxLen; omega) (by have := HLg.out; omega) (by have := lt_of_block (FT.qb HF3.out); simp; omega) ?_))
     ·intro v' w4 hown' hgrow _ hat
      have hF4 := (FT.new HF3.out (one_new W2 (.cells #[.int .i64 v.id, .int .i64 v.val, .slice eo em ec] 105))).kept (Fr.grown (S := fun k => Value.ownBlock (.slice fo m c) = some k) hgrow (fun k hk => hk)) (fun k hk => (HRr.out.lt k hk).1)
      obtain ⟨ao', m', c', rfl⟩ := own_any hown'
      have HF4 : Hid _ := hF4
      clear hF4 hown' hgrow hat ho p0 p1 p2
      go_wp2
      go_roundw
      case rel => exact ⟨j + 1, [], x1, y1, _, _, _, by omega, rfl, by go_num, ⟨GG.out.1, fun h => absurd h hy1⟩, ⟨fun h => absurd h hy1, fun _ => gs_bad hjn HSr.out Q1.out hy1⟩, fun h => absurd h hy1, HF4.out⟩
      case measure => simp [intOf]; omega
   ·obtain rfl : j = n := by omega
    have hgs : rdGs s a e = (G, x, 0) := by rw [HG.out, HS.out.1 (by first | rfl | trivial)]; simp [rdVs]
    have HGs : Hid _ := hgs
    obtain ⟨hlg, hgo⟩ := HX.out.2 (by first | rfl | trivial)
    have HGo : Hid (∀ v ∈ G, v.ok) := hgo
    obtain ⟨hm, hVx⟩ := (HR.out (by first | rfl | trivial)).at_
    subst hm
    have HVx : Hid _ := hVx
    have hg256 : G.length ≤ 256 := by omega
    obtain ⟨ch, hch⟩ : ∃ ch, chk G = ch := ⟨_, rfl⟩
    have HCh : Hid _ := hch
    obtain ⟨c0, c1, c2, c3, c4, c5, c6⟩ := hF.rf
    have HF : Hid _ := hF
    clear hgs hlg hgo hVx hch hF HX HS HR
    go_upto_region 11 with (go_at_call 19; refine (refcheck_any c HVx.out (by omega) HGo.out).mono ?_; rintro r w5 ⟨rfl, hb5⟩; rw [HCh.out]; have hF5 := FT.new HF.out hb5; obtain ⟨p0, p1, p2, p3, p4, p5, p6⟩ := hF5.rf; have HF5 : Hid _ := hF5; clear hF5)
    generalize hW : World.setCell _ _ _ = W
    have hF6 : FT w W s x ch := by
     rw [← hW]
     exact ⟨low_set (FT.low HF5.out) _ (Nat.le_refl _), set3_2 (FT.rb HF5.out) _, blk_set (FT.qb HF5.out) (by omega)⟩
    have hV6 : VxAt W (fun k => w.heap.size + 1 + 1 ≤ k) fo G := by
     rw [← hW]
     exact (VxAt.new HVx.out hb5).kept (Fr.setCell (S := fun k => k = w.heap.size) w5 ⟨w.heap.size, 2, none⟩ _ rfl) (fun k _ hp => ⟨by omega, hp⟩)
    clear hW hb5 HF5 p0 p1 p2 p3 p4 p5 p6 c0 c1 c2 c3 c4 c5 c6
    obtain ⟨p0, p1, p2⟩ := box3 hF6.qb
    have p3 := froz (o := 0) hF6.qb
    have p4 := froz (o := 1) hF6.qb
    have p5 := froz (o := 2) hF6.qb
    obtain ⟨c0, c1, c2, c3, c4, c5, c6⟩ := hF6.rf
    have HF6 : Hid _ := hF6
    have HV6 : Hid _ := hV6
    clear hF6 hV6
    go_wp2
    generalize hW2 : World.setCell _ _ _ = W2
    have b1 : W2.heap[w.heap.size + 1]? = some (.cells #[.string s, .int .i64 x, .int .i64 ch] 88 (0, 0)) := by
     rw [← hW2]
     exact set3_2 (set3_1 (set3_0 (FT.qb HF6.out) _) _) _
    have hl2 : Below w.heap.size w W2 := by
     rw [← hW2]
     exact (FT.low HF6.out).trans ((fr_r3 _ _ _ _ _).below (FT.low HF6.out).size (fun k hk => by omega))
    have hV7 : VxAt W2 (fun k => w.heap.size ≤ k) fo G := by
     rw [← hW2]
     exact VxAt.kept HV6.out (fr_r3 _ _ _ _ _) (fun k _ hp => ⟨by omega, by omega⟩)
    refine bodyPost_ret (v := .tuple #[.agg #[.string s, .int .i64 x, .int .i64 ch], .slice fo G.length c]) (f_rc Tryz.results39 _ _ (w.heap.size + 1) 88 _ _ rfl b1 Tryz.underlying88 ⟨_, rfl⟩ sizeFR) rfl ?_
    by_cases hc0 : ch = 0
    ·subst hc0
     have hrg : rdG s a e = (G, x, 0) := by unfold rdG; rw [HGs.out]; simp [HCh.out]
     rw [hrg]
     first | exact ⟨fo, G.length, c, rfl, fun _ => ⟨rfl, hV7⟩, hl2⟩ | exact ⟨fo, G.length, ⟨c, rfl⟩, fun _ => ⟨rfl, hV7⟩, hl2⟩
    ·have hrg : rdG s a e = ([], x, ch) := by have := rdG_chk HGs.out (by rw [HCh.out]; exact hc0); rw [HCh.out] at this; exact this
     rw [hrg]
     first | exact ⟨fo, G.length, c, rfl, fun h => absurd h hc0, hl2⟩ | exact ⟨fo, G.length, ⟨c, rfl⟩, fun h => absurd h hc0, hl2⟩
  ·by_cases hjn : j < n
   ·have HRG : Hid (rdG s a e = ([], x, y)) := by
     obtain ⟨⟨G', x', y'⟩, hq'⟩ : ∃ q, rdGs s a e = q := ⟨_, rfl⟩
     have h2 : (rdGs s a e).2 = (x, y) := by rw [HG.out]; exact HS.out.2 hy
     rw [hq'] at h2
     cases h2
     exact rdG_bad hq' hy
    have hy0 : (y == 0) = false := by rw [beq_eq_false_iff_ne]; exact hy
    obtain ⟨p0, p1, p2⟩ := box3 hF.qb
    have p3 := froz (o := 0) hF.qb
    have p4 := froz (o := 1) hF.qb
    have p5 := froz (o := 2) hF.qb
    obtain ⟨c0, c1, c2, c3, c4, c5, c6⟩ := hF.rf
    have HF : Hid _ := hF
    clear hF
    go_wp2
    generalize hW : World.setCell _ _ _ = W
    have b1 : W.heap[w.heap.size + 1]? = some (.cells #[.string s, .int .i64 x, .int .i64 y] 88 (0, 0)) := by
     rw [← hW]
     exact set3_2 (set3_1 (set3_0 (FT.qb HF.out) _) _) _
    have hl : Below w.heap.size w W := by
     rw [← hW]
     exact (FT.low HF.out).trans ((fr_r3 _ _ _ _ _).below (FT.low HF.out).size (fun k hk => by omega))
    refine bodyPost_ret (v := .tuple #[.agg #[.string s, .int .i64 x, .int .i64 y], .slice fo m c]) (f_rc Tryz.results39 _ _ (w.heap.size + 1) 88 _ _ rfl b1 Tryz.underlying88 ⟨_, rfl⟩ sizeFR) rfl ?_
    rw [HRG.out]
    exact ⟨fo, m, c, rfl, fun h => absurd h hy, hl⟩
   ·have HRG : Hid (rdG s a e = ([], x, y)) := by
     obtain ⟨⟨G', x', y'⟩, hq'⟩ : ∃ q, rdGs s a e = q := ⟨_, rfl⟩
     have h2 : (rdGs s a e).2 = (x, y) := by rw [HG.out]; exact HS.out.2 hy
     rw [hq'] at h2
     cases h2
     exact rdG_bad hq' hy
    have hy0 : (y == 0) = false := by rw [beq_eq_false_iff_ne]; exact hy
    obtain ⟨p0, p1, p2⟩ := box3 hF.qb
    have p3 := froz (o := 0) hF.qb
    have p4 := froz (o := 1) hF.qb
    have p5 := froz (o := 2) hF.qb
    obtain ⟨c0, c1, c2, c3, c4, c5, c6⟩ := hF.rf
    have HF : Hid _ := hF
    clear hF
    go_wp2
    generalize hW : World.setCell _ _ _ = W
    have b1 : W.heap[w.heap.size + 1]? = some (.cells #[.string s, .int .i64 x, .int .i64 y] 88 (0, 0)) := by
     rw [← hW]
     exact set3_2 (set3_1 (set3_0 (FT.qb HF.out) _) _) _
    have hl : Below w.heap.size w W := by
     rw [← hW]
     exact (FT.low HF.out).trans ((fr_r3 _ _ _ _ _).below (FT.low HF.out).size (fun k hk => by omega))
    refine bodyPost_ret (v := .tuple #[.agg #[.string s, .int .i64 x, .int .i64 y], .slice fo m c]) (f_rc Tryz.results39 _ _ (w.heap.size + 1) 88 _ _ rfl b1 Tryz.underlying88 ⟨_, rfl⟩ sizeFR) rfl ?_
    rw [HRG.out]
    exact ⟨fo, m, c, rfl, fun h => absurd h hy, hl⟩
end
end Go.Proofs.YtmgjlamglhpnaaaGreat
