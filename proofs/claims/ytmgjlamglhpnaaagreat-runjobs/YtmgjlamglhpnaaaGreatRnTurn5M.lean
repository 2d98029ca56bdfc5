/- A part as it lies in memory: its block, its graph, which vertices have halted, its box. -/
import Derived.Test.YtmgjlamglhpnaaaGreatMuApplyM
import Derived.Test.YtmgjlamglhpnaaaGreatMuSetM
import Derived.Test.YtmgjlamglhpnaaaGreatRegUM
import Derived.Deep.Cut
import Derived.Deep.DeepCutAuto
import Derived.Test.YtmgjlamglhpnaaaGreatJbMM
import Derived.Deep.MidRow
namespace Go.Proofs.YtmgjlamglhpnaaaGreat
set_option maxRecDepth 100000
open Go.RowKit
def GB (sv : Value) (L : List (Vx × Value)) (k : Nat) : Prop := sv.ownBlock = some k ∨ ∃ x ∈ L, x.2.ownBlock = some k
theorem GW.keepS {w w' : World} {base : Nat} {sv : Value} {L : List (Vx × Value)} (h : GW w base sv L) {S : Nat → Prop} (f : Fr w w' S) (hS : ∀ k, GB sv L k → ¬ S k) : GW w' base sv L :=
 ⟨own_keep h.row f (fun k hk => hS k (.inl hk)), fun x hx => own_keep (h.eds x hx) f (fun k hk => hS k (.inr ⟨x, hx, hk⟩)), h.apart⟩
theorem GW.gb {w : World} {base : Nat} {sv : Value} {L : List (Vx × Value)} (h : GW w base sv L) {k : Nat} (hk : GB sv L k) : base ≤ k ∧ k < w.heap.size := by
 rcases hk with hk | ⟨x, hx, hk⟩
 ·exact h.row.lt k hk
 ·exact (h.eds x hx).lt k hk
structure St where
 G : List Vx
 H : Int → Bool
 B : List Msg
structure PA (w : World) (S : Nat → Prop) (p n : Nat) (s : St) (sv : Value) (M : List (Vx × Value)) (hm bx : Nat) (SB : Nat → Prop) : Prop where
 blk : w.heap[p]? = some (.cells #[sv, .map (some hm), .pointer (some ⟨bx, 0, none⟩)] 123 (0, 0))
 gw : GW w 0 sv M
 gs : M.map (·.1) = s.G
 hal : BMap w hm n s.H
 box : BX w SB bx n s.B
 lt : ∀ k, SB k → k < w.heap.size
 inP : S p
 inH : S hm
 inB : ∀ k, SB k → S k
 inG : ∀ k, GB sv M k → S k
 ph : p ≠ hm
 pb : ¬ SB p
 hb : ¬ SB hm
 gp : ∀ k, GB sv M k → k ≠ p ∧ k ≠ hm ∧ ¬ SB k
theorem PA.plt {w : World} {S : Nat → Prop} {p n : Nat} {s : St} {sv : Value} {M : List (Vx × Value)} {hm bx : Nat} {SB : Nat → Prop} (h : PA w S p n s sv M hm bx SB) : p < w.heap.size := (Array.getElem?_eq_some_iff.1 h.blk).1
theorem PA.kept {w w' : World} {S : Nat → Prop} {p n : Nat} {s : St} {sv : Value} {M : List (Vx × Value)} {hm bx : Nat} {SB : Nat → Prop} (h : PA w S p n s sv M hm bx SB) {T : Nat → Prop} (f : Fr w w' T) (hT : ∀ k, S k → ¬ T k) : PA w' S p n s sv M hm bx SB :=
 { h with
  blk := (f.block p h.plt (hT p h.inP)).trans h.blk
  gw := h.gw.keepS f (fun k hk => hT k (h.inG k hk))
  hal := h.hal.same (f.block hm h.hal.lt (hT hm h.inH))
  box := h.box.kept f (fun k hk => hT k (h.inB k hk))
  lt := fun k hk => Nat.lt_of_lt_of_le (h.lt k hk) f.size }
theorem PA.new {w w' : World} {S : Nat → Prop} {p n : Nat} {s : St} {sv : Value} {M : List (Vx × Value)} {hm bx : Nat} {SB : Nat → Prop} (h : PA w S p n s sv M hm bx SB) (hb : Below w.heap.size w w') : PA w' S p n s sv M hm bx SB := h.kept (Fr.ofBelow hb (fun _ => False)) (fun _ _ h => h)
theorem PA.mono {w : World} {S T : Nat → Prop} {p n : Nat} {s : St} {sv : Value} {M : List (Vx × Value)} {hm bx : Nat} {SB : Nat → Prop} (h : PA w S p n s sv M hm bx SB) (hs : ∀ k, k < w.heap.size → S k → T k) : PA w T p n s sv M hm bx SB :=
 { h with
  inP := hs p h.plt h.inP
  inH := hs hm h.hal.lt h.inH
  inB := fun k hk => hs k (h.lt k hk) (h.inB k hk)
  inG := fun k hk => hs k (h.gw.gb hk).2 (h.inG k hk) }
theorem PA.cells {w : World} {S : Nat → Prop} {p n : Nat} {s : St} {sv : Value} {M : List (Vx × Value)} {hm bx : Nat} {SB : Nat → Prop} (h : PA w S p n s sv M hm bx SB) : w.cell? ⟨p, 0, none⟩ = some sv ∧ w.cell? ⟨p, 1, none⟩ = some (.map (some hm)) ∧ w.cell? ⟨p, 2, none⟩ = some (.pointer (some ⟨bx, 0, none⟩)) := by
 have := h.blk
 simp [World.cell?, this]
theorem over_at (c d : List Value) (u v : Value) : over (c ++ u :: d) c.length [v] = c ++ v :: d := by
 unfold over
 rw [List.take_left' rfl, List.length_singleton, List.drop_append, List.drop_eq_nil_of_le (by omega), show c.length + 1 - c.length = 1 by omega]
 simp
theorem gcs_set (A B : List (Vx × Value)) (x : Vx × Value) (v : Int) : over (gcs (A ++ x :: B)) (A.length * 3 + 1) [.int .i64 v] = gcs (A ++ (⟨x.1.id, v, x.1.es⟩, x.2) :: B) := by
 have hl : (gcs A ++ [Value.int .i64 x.1.id]).length = A.length * 3 + 1 := by rw [List.length_append, gcs_len]; rfl
 have e1 : gcs (A ++ x :: B) = (gcs A ++ [.int .i64 x.1.id]) ++ .int .i64 x.1.val :: (x.2 :: gcs B) := by rw [gcs_app, gcs_cons]; simp
 have e2 : gcs (A ++ (⟨x.1.id, v, x.1.es⟩, x.2) :: B) = (gcs A ++ [.int .i64 x.1.id]) ++ .int .i64 v :: (x.2 :: gcs B) := by rw [gcs_app, gcs_cons]; simp
 rw [e1, e2, ← hl]
 exact over_at _ _ _ _
theorem GW.val {w : World} {base : Nat} {rb cap : Nat} {A B : List (Vx × Value)} {x : Vx × Value} (h : GW w base (.slice (some ⟨rb, 0, none⟩) (A ++ x :: B).length cap) (A ++ x :: B)) (v : Int) :
  GW (w.setCell ⟨rb, A.length * 3 + 1, none⟩ (.int .i64 v)) base (.slice (some ⟨rb, 0, none⟩) (A ++ x :: B).length cap) (A ++ (⟨x.1.id, v, x.1.es⟩, x.2) :: B) := by
 have hne : ∀ y ∈ A ++ x :: B, y.2.ownBlock ≠ some rb := fun y hy e => own_diff h.row (h.eds y hy) (by decide) rb e rfl
 have fs : Fr w (w.setCell ⟨rb, A.length * 3 + 1, none⟩ (.int .i64 v)) (fun k => k = rb) := Fr.setCell (S := fun k => k = rb) w ⟨rb, _, none⟩ _ rfl
 refine ⟨?_, fun y hy => ?_, ?_⟩
 ·obtain ⟨g, cap', cur, h1, hn, hB, ht⟩ := own_blk h.row (by rw [List.length_append, List.length_cons]; omega)
  cases h1
  have hlen : (A ++ x :: B).length = A.length + 1 + B.length := by simp; omega
  have hmul : (A ++ x :: B).length * 3 ≤ cap * 3 := Nat.mul_le_mul_right 3 hn
  have hB2 := (hB.set (A.length * 3 + 1) [.int .i64 v] (by simp only [List.length_singleton]; omega)).own hn
  have hsz := hB.size
  rw [over_take_in _ _ _ (by simp only [List.length_singleton]; omega) (by omega), ht, gcs_set] at hB2
  rw [show (A ++ ((⟨x.1.id, v, x.1.es⟩ : Vx), x.2) :: B).length = (A ++ x :: B).length by simp]
  exact hB2
 ·have hy' : ∃ z ∈ A ++ x :: B, z.2 = y.2 ∧ z.1.es = y.1.es := by
   rcases List.mem_append.1 hy with hy | hy
   ·exact ⟨y, by simp [hy], rfl, rfl⟩
   ·rcases List.mem_cons.1 hy with rfl | hy
    ·exact ⟨x, by simp, rfl, rfl⟩
    ·exact ⟨y, by simp [hy], rfl, rfl⟩
  obtain ⟨z, hz, e1, e2⟩ := hy'
  rw [← e1, ← e2]
  exact own_keep (h.eds z hz) fs (fun k hk e => by subst e; exact hne z hz hk)
 ·have hap := h.apart
  rw [List.pairwise_append, List.pairwise_cons] at hap ⊢
  refine ⟨hap.1, ⟨fun y hy => hap.2.1.1 y hy, hap.2.1.2⟩, fun y hy z hz => ?_⟩
  rcases List.mem_cons.1 hz with rfl | hz
  ·exact hap.2.2 y hy x (by simp)
  ·exact hap.2.2 y hy z (by simp [hz])
theorem gb_val {sv : Value} {A B : List (Vx × Value)} {x : Vx × Value} {v : Int} {k : Nat} (h : GB sv (A ++ (⟨x.1.id, v, x.1.es⟩, x.2) :: B) k) : GB sv (A ++ x :: B) k := by
 rcases h with h | ⟨y, hy, hk⟩
 ·exact .inl h
 ·rcases List.mem_append.1 hy with hy | hy
  ·exact .inr ⟨y, by simp [hy], hk⟩
  ·rcases List.mem_cons.1 hy with rfl | hy
   ·exact .inr ⟨x, by simp, hk⟩
   ·exact .inr ⟨y, by simp [hy], hk⟩
theorem PA.val {w : World} {S : Nat → Prop} {p n rb cap : Nat} {s : St} {A B : List (Vx × Value)} {x : Vx × Value} {hm bx : Nat} {SB : Nat → Prop} (h : PA w S p n s (.slice (some ⟨rb, 0, none⟩) (A ++ x :: B).length cap) (A ++ x :: B) hm bx SB) (v : Int) :
  PA (w.setCell ⟨rb, A.length * 3 + 1, none⟩ (.int .i64 v)) S p n ⟨s.G.set A.length ⟨x.1.id, v, x.1.es⟩, s.H, s.B⟩ (.slice (some ⟨rb, 0, none⟩) (A ++ x :: B).length cap) (A ++ (⟨x.1.id, v, x.1.es⟩, x.2) :: B) hm bx SB := by
 have fs : Fr w (w.setCell ⟨rb, A.length * 3 + 1, none⟩ (.int .i64 v)) (fun k => k = rb) := Fr.setCell (S := fun k => k = rb) w ⟨rb, _, none⟩ _ rfl
 have hrb := h.gp rb (.inl rfl)
 refine { blk := (fs.block p h.plt (fun e => hrb.1 e.symm)).trans h.blk, gw := h.gw.val v, gs := ?_, hal := h.hal.same (fs.block hm h.hal.lt (fun e => hrb.2.1 e.symm)), box := h.box.kept fs (fun _ hk e => hrb.2.2 (e ▸ hk)), lt := fun k hk => Nat.lt_of_lt_of_le (h.lt k hk) fs.size, inP := h.inP, inH := h.inH, inB := h.inB, inG := fun k hk => h.inG k (gb_val hk), ph := h.ph, pb := h.pb, hb := h.hb, gp := fun k hk => h.gp k (gb_val hk) }
 show _ = s.G.set A.length ⟨x.1.id, v, x.1.es⟩
 rw [← h.gs]
 simp
theorem PA.lay {w w' : World} {S : Nat → Prop} {p n : Nat} {s : St} {sv : Value} {M : List (Vx × Value)} {hm bx : Nat} {SB : Nat → Prop} (h : PA w S p n s sv M hm bx SB) {x : Int} {c : Bool} (hm' : BMap w' hm (n + 1) (fun y => if y = x then c else s.H y)) (f : Fr w w' (fun k => k = hm)) :
  PA w' S p (n + 1) ⟨s.G, fun y => if y = x then c else s.H y, s.B⟩ sv M hm bx SB :=
 { blk := (f.block p h.plt h.ph).trans h.blk, gw := h.gw.keepS f (fun k hk => (h.gp k hk).2.1), gs := h.gs, hal := hm', box := (h.box.kept f (fun _ hk e => h.hb (e ▸ hk))).more (Nat.le_succ _), lt := fun k hk => Nat.lt_of_lt_of_le (h.lt k hk) f.size, inP := h.inP, inH := h.inH, inB := h.inB, inG := h.inG, ph := h.ph, pb := h.pb, hb := h.hb, gp := h.gp }
section
open Go.RowKit
set_option maxHeartbeats 1000000 in
theorem turn_r2 {W0 : World} {A : Act} {pr : Value} {p bx rb off n : Nat} {k id e : Int} {FQ : Option Addr → Nat → World → Prop} {CQ : Value → World → Prop} {K : Act → World → Prop} {Q' : Exit → Act → World → Prop} (hsz : A.tmps.size = 75) (hA0 : A.eval (.tmp 0) = .pointer (some ⟨p, 0, none⟩)) (hA2 : A.eval (.tmp 2) = pr) (hA9 : A.eval (.tmp 9) = .pointer (some ⟨rb, off, none⟩)) (hB : W0.cell? ⟨p, 2, none⟩ = some (.pointer (some ⟨bx, 0, none⟩))) (hI : W0.cell? ⟨rb, off, none⟩ = some (.int .i64 id)) (hCo : ∀ W, Calls Tryz.prog 108 #[pr] W fun r w' => r = .returned (.int .i64 k) ∧ w' = W) (hFo : ∀ W, Below W0.heap.size W0 W → Calls Tryz.prog 109 #[.pointer (some ⟨bx, 0, none⟩), .int .i64 id] W fun r w' => ∃ mo mc, r = .returned (.slice mo n mc) ∧ FQ mo mc w' ∧ Below W.heap.size W w') (hCb : ∀ W mo mc, Below W0.heap.size W0 W → FQ mo mc W → Calls Tryz.prog 107 #[.int .i64 k, .slice mo n mc] W fun r w' => ∃ v0, r = .returned (.tuple #[v0, .int .i64 e]) ∧ CQ v0 w' ∧ Below W.heap.size W w') (hFn : ∀ mo mc W W', FQ mo mc W → Below W.heap.size W W' → FQ mo mc W') (hCn : ∀ v W W', CQ v W → Below W.heap.size W W' → CQ v W')
  (HK : ∀ X W, Below W0.heap.size W0 W → CQ (X 10) W ∧ X 11 = .int .i64 e → K (puts A X [21, 22, 23, 24, 25, 26, 27, 28, 29, 30, 31, 32, 20, 33, 34, 10, 11]) W) :
  Code.wp Tryz.prog ((Tryz.f85.body.bind (regionJ 2)).getD .skip) (Exit.then K Q') A W0 := by
 obtain ⟨ds, hds⟩ : ∃ ds, [21, 22, 23, 24, 25, 26, 27, 28, 29, 30, 31, 32, 20, 33, 34, 10, 11] = ds := ⟨_, rfl⟩
 have hin : ∀ {X : Nat → Value} {k : Nat}, k ∈ [21, 22, 23, 24, 25, 26, 27, 28, 29, 30, 31, 32, 20, 33, 34, 10, 11] → (puts A X ds).eval (.tmp k) = X k := fun hk => by rw [← hds]; exact eval_in hk (by rw [hsz]; revert hk; simp only [List.mem_cons, List.not_mem_nil, or_false]; omega)
 have hout : ∀ {X : Nat → Value} {k : Nat}, k ∉ [21, 22, 23, 24, 25, 26, 27, 28, 29, 30, 31, 32, 20, 33, 34, 10, 11] → (puts A X ds).eval (.tmp k) = A.eval (.tmp k) := fun hk => by rw [← hds]; exact eval_out hk
 have g0 : ds.getD 0 0 = 21 := by rw [← hds]; rfl
 have g1 : ds.getD 1 0 = 22 := by rw [← hds]; rfl
 have g2 : ds.getD 2 0 = 23 := by rw [← hds]; rfl
 have g3 : ds.getD 3 0 = 24 := by rw [← hds]; rfl
 have g4 : ds.getD 4 0 = 25 := by rw [← hds]; rfl
 have g5 : ds.getD 5 0 = 26 := by rw [← hds]; rfl
 have g6 : ds.getD 6 0 = 27 := by rw [← hds]; rfl
 have g7 : ds.getD 7 0 = 28 := by rw [← hds]; rfl
 have g8 : ds.getD 8 0 = 29 := by rw [← hds]; rfl
 have g9 : ds.getD 9 0 = 30 := by rw [← hds]; rfl
 have g10 : ds.getD 10 0 = 31 := by rw [← hds]; rfl
 have g11 : ds.getD 11 0 = 32 := by rw [← hds]; rfl
 have g12 : ds.getD 12 0 = 20 := by rw [← hds]; rfl
 have g13 : ds.getD 13 0 = 33 := by rw [← hds]; rfl
 have g14 : ds.getD 14 0 = 34 := by rw [← hds]; rfl
 have g15 : ds.getD 15 0 = 10 := by rw [← hds]; rfl
 have g16 : ds.getD 16 0 = 11 := by rw [← hds]; rfl
 obtain ⟨V, hV, e0, e1, e2, e3, e4, e5, e6, e7, e8, e9, e10, e11, e12, e13, e14, e15, e16⟩ : ∃ V : Nat → Value → World → Prop, (∀ i v W W', V i v W → Below W.heap.size W W' → V i v W') ∧ (∀ v W, V 0 v W = (v = pr)) ∧ (∀ v W, V 1 v W = (v = .int .i64 k)) ∧ (∀ v W, V 2 v W = (v = .pointer (some ⟨p, 0, none⟩))) ∧ (∀ v W, V 3 v W = (v = .pointer (some ⟨p, 0, none⟩))) ∧ (∀ v W, V 4 v W = (v = .pointer (some ⟨p, 2, none⟩))) ∧ (∀ v W, V 5 v W = (v = .pointer (some ⟨bx, 0, none⟩))) ∧ (∀ v W, V 6 v W = (v = .pointer (some ⟨rb, off, none⟩))) ∧ (∀ v W, V 7 v W = (v = .pointer (some ⟨rb, off, none⟩))) ∧ (∀ v W, V 8 v W = (v = .pointer (some ⟨rb, off, none⟩))) ∧ (∀ v W, V 9 v W = (v = .int .i64 id)) ∧ (∀ v W, V 10 v W = (∃ mo mc, v = .slice mo n mc ∧ FQ mo mc W)) ∧ (∀ v W, V 11 v W = (∃ v0, v = .tuple #[v0, .int .i64 e] ∧ CQ v0 W)) ∧ (∀ v W, V 12 v W = (∃ v0, v = .tuple #[v0, .int .i64 e] ∧ CQ v0 W)) ∧ (∀ v W, V 13 v W = (CQ v W)) ∧ (∀ v W, V 14 v W = (v = .int .i64 e)) ∧ (∀ v W, V 15 v W = (CQ v W)) ∧ (∀ v W, V 16 v W = (v = .int .i64 e)) := by
  refine ⟨fun i v W => match i with
   | 0 => v = pr
   | 1 => v = .int .i64 k
   | 2 => v = .pointer (some ⟨p, 0, none⟩)
   | 3 => v = .pointer (some ⟨p, 0, none⟩)
   | 4 => v = .pointer (some ⟨p, 2, none⟩)
   | 5 => v = .pointer (some ⟨bx, 0, none⟩)
   | 6 => v = .pointer (some ⟨rb, off, none⟩)
   | 7 => v = .pointer (some ⟨rb, off, none⟩)
   | 8 => v = .pointer (some ⟨rb, off, none⟩)
   | 9 => v = .int .i64 id
   | 10 => ∃ mo mc, v = .slice mo n mc ∧ FQ mo mc W
   | 11 => ∃ v0, v = .tuple #[v0, .int .i64 e] ∧ CQ v0 W
   | 12 => ∃ v0, v = .tuple #[v0, .int .i64 e] ∧ CQ v0 W
   | 13 => CQ v W
   | 14 => v = .int .i64 e
   | 15 => CQ v W
   | 16 => v = .int .i64 e
   | _ => True, ?_, fun _ _ => rfl, fun _ _ => rfl, fun _ _ => rfl, fun _ _ => rfl, fun _ _ => rfl, fun _ _ => rfl, fun _ _ => rfl, fun _ _ => rfl, fun _ _ => rfl, fun _ _ => rfl, fun _ _ => rfl, fun _ _ => rfl, fun _ _ => rfl, fun _ _ => rfl, fun _ _ => rfl, fun _ _ => rfl, fun _ _ => rfl⟩
  intro i v W W' h hb
  match i, h with
  | 0, h => exact h
  | 1, h => exact h
  | 2, h => exact h
  | 3, h => exact h
  | 4, h => exact h
  | 5, h => exact h
  | 6, h => exact h
  | 7, h => exact h
  | 8, h => exact h
  | 9, h => exact h
  | 10, h => exact (by obtain ⟨mo, mc, h1, h2⟩ := h; exact ⟨mo, mc, h1, hFn _ _ _ _ h2 hb⟩)
  | 11, h => exact (by obtain ⟨v0, h1, h2⟩ := h; exact ⟨v0, h1, hCn _ _ _ h2 hb⟩)
  | 12, h => exact (by obtain ⟨v0, h1, h2⟩ := h; exact ⟨v0, h1, hCn _ _ _ h2 hb⟩)
  | 13, h => exact hCn _ _ _ h hb
  | 14, h => exact h
  | 15, h => exact hCn _ _ _ h hb
  | 16, h => exact h
  | _ + 17, _ => trivial
 conv => arg 2; whnf
 refine wp_region_V ds V (by kernel_rfl) (by kernel_rfl) (by rw [← hds]; kernel_rfl) hV ?_ ?_
 ·refine ⟨?_, ?_, ?_, ?_, ?_, ?_, ?_, ?_, ?_, ?_, ?_, ?_, ?_, ?_, ?_, ?_, ?_, trivial⟩
  all_goals intro X W hb hd
  ·have h0 := hout (X := X) (k := 2) (by decide)
   rw [hA2] at h0
   refine v_value (V := V 0) (v := pr) ?_ (by rw [e0])
   generalize (puts A X ds).eval = ρ at h0 ⊢
   go_simp
  ·have d0 := hd 0 (by kernel_rfl)
   rw [e0, g0] at d0
   have h0 := (hin (X := X) (k := 21) (by decide)).trans d0
   have hf : (puts A X ds).eval (.func 108) = .func (.func 108) #[] #[] := rfl
   refine v_call (V := V 1) (f := 108) (vs := #[pr]) ?_ ?_
   ·generalize (puts A X ds).eval = ρ at h0 hf ⊢
    go_simp
   ·refine (hCo W).mono ?_
    rintro r W' ⟨rfl, rfl⟩
    exact ⟨_, rfl, by rw [e1], Below.refl _ _⟩
  ·have h0 := hout (X := X) (k := 0) (by decide)
   rw [hA0] at h0
   refine v_value (V := V 2) (v := .pointer (some ⟨p, 0, none⟩)) ?_ (by rw [e2])
   generalize (puts A X ds).eval = ρ at h0 ⊢
   go_simp
  ·have d0 := hd 2 (by kernel_rfl)
   rw [e2, g2] at d0
   have h0 := (hin (X := X) (k := 23) (by decide)).trans d0
   refine v_value (V := V 3) (v := .pointer (some ⟨p, 0, none⟩)) ?_ (by rw [e3])
   generalize (puts A X ds).eval = ρ at h0 ⊢
   go_simp
  ·have d0 := hd 3 (by kernel_rfl)
   rw [e3, g3] at d0
   have h0 := (hin (X := X) (k := 24) (by decide)).trans d0
   refine v_value (V := V 4) (v := .pointer (some ⟨p, 2, none⟩)) ?_ (by rw [e4])
   generalize (puts A X ds).eval = ρ at h0 ⊢
   go_simp
  ·have d0 := hd 4 (by kernel_rfl)
   rw [e4, g4] at d0
   have h0 := (hin (X := X) (k := 25) (by decide)).trans d0
   have c0 := (hb.cell (p := ⟨p, 2, none⟩) (lt_cell hB)).trans hB
   refine v_value (V := V 5) (v := .pointer (some ⟨bx, 0, none⟩)) ?_ (by rw [e5])
   generalize (puts A X ds).eval = ρ at h0 ⊢
   go_simp
  ·have h0 := hout (X := X) (k := 9) (by decide)
   rw [hA9] at h0
   refine v_value (V := V 6) (v := .pointer (some ⟨rb, off, none⟩)) ?_ (by rw [e6])
   generalize (puts A X ds).eval = ρ at h0 ⊢
   go_simp
  ·have d0 := hd 6 (by kernel_rfl)
   rw [e6, g6] at d0
   have h0 := (hin (X := X) (k := 27) (by decide)).trans d0
   refine v_value (V := V 7) (v := .pointer (some ⟨rb, off, none⟩)) ?_ (by rw [e7])
   generalize (puts A X ds).eval = ρ at h0 ⊢
   go_simp
  ·have d0 := hd 7 (by kernel_rfl)
   rw [e7, g7] at d0
   have h0 := (hin (X := X) (k := 28) (by decide)).trans d0
   refine v_value (V := V 8) (v := .pointer (some ⟨rb, off, none⟩)) ?_ (by rw [e8])
   generalize (puts A X ds).eval = ρ at h0 ⊢
   go_simp
  ·have d0 := hd 8 (by kernel_rfl)
   rw [e8, g8] at d0
   have h0 := (hin (X := X) (k := 29) (by decide)).trans d0
   have c0 := (hb.cell (p := ⟨rb, off, none⟩) (lt_cell hI)).trans hI
   refine v_value (V := V 9) (v := .int .i64 id) ?_ (by rw [e9])
   generalize (puts A X ds).eval = ρ at h0 ⊢
   go_simp
  ·have d0 := hd 5 (by kernel_rfl)
   rw [e5, g5] at d0
   have h0 := (hin (X := X) (k := 26) (by decide)).trans d0
   have d1 := hd 9 (by kernel_rfl)
   rw [e9, g9] at d1
   have h1 := (hin (X := X) (k := 30) (by decide)).trans d1
   have hf : (puts A X ds).eval (.func 109) = .func (.func 109) #[] #[] := rfl
   refine v_call (V := V 10) (f := 109) (vs := #[.pointer (some ⟨bx, 0, none⟩), .int .i64 id]) ?_ ?_
   ·generalize (puts A X ds).eval = ρ at h0 h1 hf ⊢
    go_simp
   ·refine (hFo W hb).mono ?_
    rintro r W' ⟨mo, mc, rfl, hq, hb'⟩
    exact ⟨_, rfl, by rw [e10]; exact ⟨mo, mc, rfl, hq⟩, hb'⟩
  ·have d0 := hd 1 (by kernel_rfl)
   rw [e1, g1] at d0
   have h0 := (hin (X := X) (k := 22) (by decide)).trans d0
   have d1 := hd 10 (by kernel_rfl)
   rw [e10, g10] at d1
   obtain ⟨mo, mc, d1, hq⟩ := d1
   have h1 := (hin (X := X) (k := 31) (by decide)).trans d1
   have hf : (puts A X ds).eval (.func 107) = .func (.func 107) #[] #[] := rfl
   refine v_call (V := V 11) (f := 107) (vs := #[.int .i64 k, .slice mo n mc]) ?_ ?_
   ·generalize (puts A X ds).eval = ρ at h0 h1 hf ⊢
    go_simp
   ·refine (hCb W mo mc hb hq).mono ?_
    rintro r W' ⟨v0, rfl, hq', hb'⟩
    exact ⟨_, rfl, by rw [e11]; exact ⟨v0, rfl, hq'⟩, hb'⟩
  ·have d0 := hd 11 (by kernel_rfl)
   rw [e11, g11] at d0
   obtain ⟨v0, d0, hq⟩ := d0
   have h0 := (hin (X := X) (k := 32) (by decide)).trans d0
   refine v_value (V := V 12) (v := .tuple #[v0, .int .i64 e]) ?_ (by rw [e12]; exact ⟨v0, rfl, hq⟩)
   generalize (puts A X ds).eval = ρ at h0 ⊢
   go_simp
  ·have d0 := hd 12 (by kernel_rfl)
   rw [e12, g12] at d0
   obtain ⟨v0, d0, hq⟩ := d0
   have h0 := (hin (X := X) (k := 20) (by decide)).trans d0
   refine v_value (V := V 13) (v := v0) ?_ (by rw [e13]; exact hq)
   generalize (puts A X ds).eval = ρ at h0 ⊢
   go_simp
  ·have d0 := hd 12 (by kernel_rfl)
   rw [e12, g12] at d0
   obtain ⟨v0, d0, hq⟩ := d0
   have h0 := (hin (X := X) (k := 20) (by decide)).trans d0
   refine v_value (V := V 14) (v := .int .i64 e) ?_ (by rw [e14])
   generalize (puts A X ds).eval = ρ at h0 ⊢
   go_simp
  ·have d0 := hd 13 (by kernel_rfl)
   rw [e13, g13] at d0
   have h0 := hin (X := X) (k := 33) (by decide)
   refine v_value (V := V 15) (v := X 33) ?_ (by rw [e15]; exact d0)
   generalize (puts A X ds).eval = ρ at h0 ⊢
   go_simp
  ·have d0 := hd 14 (by kernel_rfl)
   rw [e14, g14] at d0
   have h0 := (hin (X := X) (k := 34) (by decide)).trans d0
   refine v_value (V := V 16) (v := .int .i64 e) ?_ (by rw [e16])
   generalize (puts A X ds).eval = ρ at h0 ⊢
   go_simp
 ·intro X W hb hall
  have r0 := hall 0 (by decide)
  rw [e0, g0] at r0
  have r1 := hall 1 (by decide)
  rw [e1, g1] at r1
  have r2 := hall 2 (by decide)
  rw [e2, g2] at r2
  have r3 := hall 3 (by decide)
  rw [e3, g3] at r3
  have r4 := hall 4 (by decide)
  rw [e4, g4] at r4
  have r5 := hall 5 (by decide)
  rw [e5, g5] at r5
  have r6 := hall 6 (by decide)
  rw [e6, g6] at r6
  have r7 := hall 7 (by decide)
  rw [e7, g7] at r7
  have r8 := hall 8 (by decide)
  rw [e8, g8] at r8
  have r9 := hall 9 (by decide)
  rw [e9, g9] at r9
  have r10 := hall 10 (by decide)
  rw [e10, g10] at r10
  have r11 := hall 11 (by decide)
  rw [e11, g11] at r11
  have r12 := hall 12 (by decide)
  rw [e12, g12] at r12
  have r13 := hall 13 (by decide)
  rw [e13, g13] at r13
  have r14 := hall 14 (by decide)
  rw [e14, g14] at r14
  have r15 := hall 15 (by decide)
  rw [e15, g15] at r15
  have r16 := hall 16 (by decide)
  rw [e16, g16] at r16
  have := HK X W hb (by first | assumption | exact ⟨by assumption, by assumption⟩ | exact ⟨by assumption, by assumption, by assumption⟩ | simp_all)
  rw [hds] at this
  exact this
end
section
open Go Go.RowKit
section
variable {P : Program} {Q : Exit → Act → World → Prop} {md : Region.Mode}
def dstsT : List Nat → List Oper → Bool
 | [], [] => true
 | d :: ds, o :: os => (o.dst == some d || (o.dst == none && decide (1000000 ≤ d))) && !ds.contains d && dstsT ds os
 | _, _ => false
theorem dstsT_len : ∀ {ds : List Nat} {os : List Oper}, dstsT ds os = true → ds.length = os.length
 | [], [], _ => rfl
 | [], _ :: _, h => by cases h
 | _ :: _, [], h => by cases h
 | d :: ds, o :: os, h => by
  simp only [dstsT, Bool.and_eq_true] at h
  simp [dstsT_len h.2]
theorem dstsT_at : ∀ {ds : List Nat} {os : List Oper}, dstsT ds os = true → ∀ {i : Nat} {o : Oper}, os[i]? = some o → (o.dst = some (ds.getD i 0) ∨ o.dst = none ∧ 1000000 ≤ ds.getD i 0) ∧ ds.getD i 0 ∈ ds
 | [], [], _, i, o, h => by simp at h
 | [], _ :: _, h, _, _, _ => by cases h
 | _ :: _, [], h, _, _, _ => by cases h
 | d :: ds, o :: os, h, 0, x, e => by
  simp only [dstsT, Bool.and_eq_true, Bool.or_eq_true, decide_eq_true_eq, beq_iff_eq] at h
  cases e
  exact ⟨by simpa using h.1.1, by simp⟩
 | d :: ds, o :: os, h, i + 1, x, e => by
  simp only [dstsT, Bool.and_eq_true] at h
  have := dstsT_at h.2 (i := i) e
  exact ⟨by simpa using this.1, by simpa using Or.inr this.2⟩
theorem dstsT_ne : ∀ {ds : List Nat} {os : List Oper}, dstsT ds os = true → ∀ {i j : Nat}, i < ds.length → j < ds.length → i ≠ j → ds.getD i 0 ≠ ds.getD j 0
 | [], [], _, i, j, h, _, _ => by simp at h
 | [], _ :: _, h, _, _, _, _, _ => by cases h
 | _ :: _, [], h, _, _, _, _, _ => by cases h
 | d :: ds, o :: os, h, i, j, hi, hj, hne => by
  simp only [dstsT, Bool.and_eq_true] at h
  have hm : d ∉ ds := by simpa using h.1.2
  have mem : ∀ k, k < ds.length → ds.getD k 0 ∈ ds := fun k hk => by simp [List.getD, hk]
  cases i with
  | zero =>
   cases j with
   | zero => exact absurd rfl hne
   | succ j =>
    have := mem j (by simpa using hj)
    intro e
    simp only [List.getD_cons_zero, List.getD_cons_succ] at e
    exact hm (e ▸ this)
  | succ i =>
   cases j with
   | zero =>
    have := mem i (by simpa using hi)
    intro e
    simp only [List.getD_cons_zero, List.getD_cons_succ] at e
    exact hm (e ▸ this)
   | succ j =>
    simp only [List.getD_cons_succ]
    exact dstsT_ne h.2 (by simpa using hi) (by simpa using hj) (fun e => hne (by omega))
theorem puts_far {A : Act} {X : Nat → Value} {ds : List Nat} {d : Nat} (v : Value) (h : A.tmps.size ≤ d) : puts A (upd X d v) ds = puts A X ds := by
 refine act_ext (by rw [puts_defers, puts_defers]) (fun k => ?_)
 rw [puts_at, puts_at]
 by_cases e : k ∈ ds ∧ k < A.tmps.size
 ·rw [if_pos e, if_pos e]
  have : k ≠ d := by omega
  simp [upd, this]
 ·rw [if_neg e, if_neg e]
def tailB (md : Region.Mode) (all : List Oper) (tl : List (Option Nat)) (M : Nat) : Bool :=
 ((List.range all.length).all fun i => match tl.getD i none with
  | none => true
  | some m => decide (m < M) && ((List.range all.length).all fun j => decide (i = j) || !(tl.getD j none == some m)) && (match m with
   | 0 => true
   | m + 1 => (List.range all.length).any fun j => (tl.getD j none == some m) && waitsB md all all.length i j)) &&
 ((List.range M).all fun m => (List.range all.length).any fun i => tl.getD i none == some m)
structure Tails (md : Region.Mode) (all : List Oper) (tl : List (Option Nat)) (M : Nat) : Prop where
 lt : ∀ i m, i < all.length → tl.getD i none = some m → m < M
 one : ∀ i j m, i < all.length → j < all.length → tl.getD i none = some m → tl.getD j none = some m → i = j
 prev : ∀ i m, i < all.length → tl.getD i none = some (m + 1) → ∃ j, j < all.length ∧ tl.getD j none = some m ∧ waitsB md all all.length i j = true
 ex : ∀ m, m < M → ∃ i, i < all.length ∧ tl.getD i none = some m
theorem tailB_at {all : List Oper} {tl : List (Option Nat)} {M : Nat} (h : tailB md all tl M = true) : Tails md all tl M := by
 unfold tailB at h
 rw [Bool.and_eq_true] at h
 obtain ⟨h1, h2⟩ := h
 have h1' := fun i (hi : i < all.length) => List.all_eq_true.1 h1 i (List.mem_range.2 hi)
 refine ⟨fun i m hi e => ?_, fun i j m hi hj e e' => ?_, fun i m hi e => ?_, fun m hm => ?_⟩
 ·have := h1' i hi
  rw [e] at this
  simp only [Bool.and_eq_true, decide_eq_true_eq] at this
  exact this.1.1
 ·have := h1' i hi
  rw [e] at this
  simp only [Bool.and_eq_true] at this
  have := List.all_eq_true.1 this.1.2 j (List.mem_range.2 hj)
  rw [e'] at this
  simpa using this
 ·have := h1' i hi
  rw [e] at this
  simp only [Bool.and_eq_true] at this
  obtain ⟨j, hj, h3⟩ := List.any_eq_true.1 this.2
  rw [Bool.and_eq_true] at h3
  exact ⟨j, List.mem_range.1 hj, by simpa using h3.1, h3.2⟩
 ·obtain ⟨i, hi, h3⟩ := List.any_eq_true.1 (List.all_eq_true.1 h2 m (List.mem_range.2 hm))
  exact ⟨i, List.mem_range.1 hi, by simpa using h3⟩
def StepsT (P : Program) (md : Region.Mode) (Q : Exit → Act → World → Prop) (A : Act) (ds : List Nat) (all : List Oper) (tl : List (Option Nat)) (V : Nat → Value → World → Prop) (T : Nat → (Nat → Value) → World → Prop) (R : World → World → Prop) : Nat → List Oper → Prop
 | _, [] => True
 | i, o :: os => ((tl.getD i none = none → ∀ X W m, T m X W → (∀ j q, j < all.length → tl.getD j none = some q → waitsB md all all.length j i = true → m ≤ q) → (∀ k, needs md o k = true → V k (X (ds.getD k 0)) W) → (∀ k, k < all.length → waitsB md all all.length k i = true → X (ds.getD k 0) = A.eval (.tmp (ds.getD k 0))) → o.wp P (puts A X ds) W (fun a' W' => ∃ v, a' = (puts A X ds).put o.dst v ∧ V i v W' ∧ T m X W' ∧ R W W') Q) ∧
   (∀ m, tl.getD i none = some m → ∀ X W, T m X W → (∀ k, needs md o k = true → V k (X (ds.getD k 0)) W) → (∀ k, k < all.length → waitsB md all all.length k i = true → X (ds.getD k 0) = A.eval (.tmp (ds.getD k 0))) → o.wp P (puts A X ds) W (fun a' W' => ∃ v, a' = (puts A X ds).put o.dst v ∧ V i v W' ∧ T (m + 1) (upd X (ds.getD i 0) v) W' ∧ R W W') Q)) ∧ StepsT P md Q A ds all tl V T R (i + 1) os
structure JT (md : Region.Mode) (A : Act) (ds : List Nat) (all : List Oper) (tl : List (Option Nat)) (M : Nat) (V : Nat → Value → World → Prop) (T : Nat → (Nat → Value) → World → Prop) (on : Nat → Prop) (X : Nat → Value) (W : World) : Prop where
 vals : ∀ k, k < all.length → on k → V k (X (ds.getD k 0)) W
 bound : ∀ k, on k → k < all.length
 closed : ∀ k o, all[k]? = some o → on k → ∀ m, needs md o m = true → on m
 tail : ∃ m, m ≤ M ∧ T m X W ∧ ∀ i j, i < all.length → tl.getD i none = some j → (on i ↔ j < m)
theorem steps_of_T {A : Act} {ds : List Nat} {V : Nat → Value → World → Prop} {T : Nat → (Nat → Value) → World → Prop} {R : World → World → Prop} {all : List Oper} {tl : List (Option Nat)} {M : Nat} (hsz : A.tmps.size ≤ 1000000) (hds : dstsT ds all = true) (htl : Tails md all tl M)
  (hV : ∀ i v W W', V i v W → R W W' → V i v W') (hT : ∀ m X X' W, (∀ i, i < all.length → tl.getD i none ≠ none → X (ds.getD i 0) = X' (ds.getD i 0)) → T m X W → T m X' W) :
  ∀ {os : List Oper} {i : Nat}, (∀ j o, os[j]? = some o → all[i + j]? = some o) → StepsT P md Q A ds all tl V T R i os → Steps P md Q A ds (fun on X W => JT md A ds all tl M V T on X W ∧ ∀ k, k < all.length → ¬ on k → X (ds.getD k 0) = A.eval (.tmp (ds.getD k 0))) i os
 | [], _, _, _ => trivial
 | o :: os, i, hall, h => by
  have hoi := hall 0 o rfl
  rw [Nat.add_zero] at hoi
  have hil : i < all.length := (List.getElem?_eq_some_iff.1 hoi).1
  obtain ⟨hd1, hd2⟩ := dstsT_at hds hoi
  refine ⟨?_, steps_of_T hsz hds htl hV hT (fun j o' e => by have := hall (j + 1) o' (by simpa using e); rwa [show i + 1 + j = i + (j + 1) by omega]) h.2⟩
  rintro on X W ⟨⟨h1, h2, h4, m, hmM, hTm, hon⟩, h5⟩ hn hk
  have hput : ∀ v, (puts A X ds).put o.dst v = puts A (upd X (ds.getD i 0) v) ds := by
   intro v
   rcases hd1 with e | ⟨e, e'⟩
   ·rw [e]; exact puts_put v hd2
   ·rw [e, puts_far v (by omega)]; rfl
  have hne : ∀ k, k < all.length → k ≠ i → ds.getD k 0 ≠ ds.getD i 0 := fun k hkl hki => dstsT_ne hds (by rw [dstsT_len hds]; exact hkl) (by rw [dstsT_len hds]; exact hil) hki
  have hold : ∀ k, k < all.length → waitsB md all all.length k i = true → X (ds.getD k 0) = A.eval (.tmp (ds.getD k 0)) := fun k hkl hw => h5 k hkl (fun hon => hn (waits_on h4 _ _ _ hw hon))
  have hneed : ∀ k, needs md o k = true → V k (X (ds.getD k 0)) W := fun k hk' => h1 k (h2 k (hk k hk')) (hk k hk')
  have fin : ∀ (v : Value) (W' : World) (m' : Nat), V i v W' → R W W' → m' ≤ M → T m' (upd X (ds.getD i 0) v) W' → (∀ i' j, i' < all.length → tl.getD i' none = some j → ((i' = i ∨ on i') ↔ j < m')) →
    (JT md A ds all tl M V T (fun k => k = i ∨ on k) (upd X (ds.getD i 0) v) W' ∧ ∀ k, k < all.length → ¬ (k = i ∨ on k) → upd X (ds.getD i 0) v (ds.getD k 0) = A.eval (.tmp (ds.getD k 0))) := by
   intro v W' m' hv hR hm' hT' hon'
   have hlast : ∀ k, k < all.length → ¬ (k = i ∨ on k) → upd X (ds.getD i 0) v (ds.getD k 0) = A.eval (.tmp (ds.getD k 0)) := by
    intro k hkl hk'
    simp only [upd, hne k hkl (fun e => hk' (Or.inl e)), if_false]
    exact h5 k hkl (fun hon => hk' (Or.inr hon))
   refine ⟨⟨?_, ?_, ?_, ⟨m', hm', hT', hon'⟩⟩, hlast⟩
   ·rintro k hkl (rfl | hk')
    ·simpa [upd] using hv
    ·simp only [upd, hne k hkl (fun e => hn (e ▸ hk')), if_false]
     exact hV _ _ _ _ (h1 k hkl hk') hR
   ·rintro k (rfl | hk')
    ·exact hil
    ·exact h2 k hk'
   ·rintro k o' ho' (rfl | hk') m hm
    ·rw [hoi] at ho'
     cases ho'
     exact Or.inr (hk m hm)
    ·exact Or.inr (h4 k o' ho' hk' m hm)
  cases ht : tl.getD i none with
  | none =>
   refine Oper.wp_mono ?_ (h.1.1 ht X W m hTm (fun j q hj e hw => by
    rcases Nat.lt_or_ge q m with h' | h'
    ·exact absurd (waits_on h4 _ _ _ hw ((hon j q hj e).2 h')) hn
    ·exact h') hneed hold)
   rintro a' W' ⟨v, rfl, hv, hT', hR⟩
   refine ⟨_, hput v, fin v W' m hv hR hmM (hT m X _ W' (fun k hkl hkt => ?_) hT') (fun i' j hi' e => ?_)⟩
   ·have : k ≠ i := fun e => hkt (e ▸ ht)
    unfold upd
    rw [if_neg (hne k hkl this)]
   ·rw [← hon i' j hi' e]
    constructor
    ·rintro (rfl | h') <;> first | exact h' | (rw [ht] at e; cases e)
    ·exact Or.inr
  | some j =>
   have hmj : m = j := by
    have h6 : ¬ j < m := fun hlt => hn ((hon i j hil ht).2 hlt)
    rcases Nat.lt_or_ge m j with h7 | h7
    ·exfalso
     obtain ⟨j', rfl⟩ : ∃ j', j = j' + 1 := ⟨j - 1, by omega⟩
     obtain ⟨q, hq, hqt, hw⟩ := htl.prev i j' hil ht
     have hqon : on q := by
      obtain ⟨f, hf⟩ : ∃ f, all.length = f + 1 := ⟨all.length - 1, by omega⟩
      rw [hf] at hw
      unfold waitsB at hw
      rw [hoi] at hw
      obtain ⟨e, he, h8⟩ := Array.any_eq_true'.1 hw
      rw [Bool.and_eq_true, Bool.or_eq_true] at h8
      have hm8 : on e.on := hk e.on (Array.any_eq_true'.2 ⟨e, he, by rw [h8.1]; simp⟩)
      rcases h8.2 with h9 | h9
      ·rw [← show e.on = q by simpa using h9]; exact hm8
      ·exact waits_on h4 _ _ _ h9 hm8
     have := (hon q j' hq hqt).1 hqon
     omega
    ·omega
   subst hmj
   refine Oper.wp_mono ?_ (h.1.2 m ht X W hTm hneed hold)
   rintro a' W' ⟨v, rfl, hv, hT', hR⟩
   refine ⟨_, hput v, fin v W' (m + 1) hv hR (htl.lt i m hil ht) hT' (fun i' j hi' e => ?_)⟩
   constructor
   ·rintro (rfl | h')
    ·rw [ht] at e; cases e; omega
    ·have := (hon i' j hi' e).1 h'; omega
   ·intro hj
    by_cases hjm : j = m
    ·subst hjm; exact Or.inl (htl.one i' i j hi' hil e ht)
    ·exact Or.inr ((hon i' j hi' e).2 (by omega))
theorem wp_region_T {id : Nat} {ops : List Oper} {a : Act} {w : World} (ds : List Nat) (tl : List (Option Nat)) (M : Nat) (V : Nat → Value → World → Prop) (T : Nat → (Nat → Value) → World → Prop) (R : World → World → Prop) (hm : P.follows .mixedOrders = true) (hp : plainB .any ops = true) (hsz : a.tmps.size ≤ 1000000) (hds : dstsT ds ops = true) (htl : tailB .any ops tl M = true)
  (hV : ∀ i v W W', V i v W → R W W' → V i v W') (hT : ∀ m X X' W, (∀ i, i < ops.length → tl.getD i none ≠ none → X (ds.getD i 0) = X' (ds.getD i 0)) → T m X W → T m X' W)
  (h0 : T 0 (fun k => a.tmps.getD k undef) w.drew) (hst : StepsT P .any Q a ds ops tl V T R 0 ops)
  (hdone : ∀ X W, (∀ i, i < ops.length → V i (X (ds.getD i 0)) W) → T M X W → Q .normal (puts a X ds) W) : (Code.region id ops.toArray true).wp P Q a w := by
 have htl' := tailB_at htl
 refine wp_region_J ds _ hm hp ?_ (steps_of_T hsz hds htl' hV hT (all := ops) (i := 0) (fun j o e => by rwa [Nat.zero_add]) hst) ?_
 ·exact ⟨⟨fun _ _ h => h.elim, fun _ h => h.elim, fun _ _ _ h => h.elim, 0, Nat.zero_le _, h0, fun i j _ _ => ⟨fun h => h.elim, fun h => absurd h (by omega)⟩⟩, fun _ _ _ => rfl⟩
 ·rintro on X W ⟨⟨h1, _, _, m, hmM, hTm, hon⟩, _⟩ hall
  have : m = M := by
   rcases Nat.lt_or_ge m M with h | h
   ·obtain ⟨i, hi, e⟩ := htl'.ex m h
    have := (hon i m hi e).1 (hall i hi)
    omega
   ·omega
  subst this
  exact hdone X W (fun i hi => h1 i hi (hall i hi)) hTm
end
end
section
open Go.RowKit
theorem range3 {W : World} {b o : Nat} {x y z : Value} (h0 : W.cell? ⟨b, o, none⟩ = some x) (h1 : W.cell? ⟨b, o + 1, none⟩ = some y) (h2 : W.cell? ⟨b, o + 2, none⟩ = some z) : W.rangeAt b o [x, y, z] := by
 intro j v hv
 match j, hv with
 | 0, hv => cases hv; exact h0
 | 1, hv => cases hv; exact h1
 | 2, hv => cases hv; exact h2
 | _ + 3, hv => cases hv
theorem m_frozR {W : World} {b o : Nat} {t : TypeId} {cs : Array Value} (h : W.heap[b]? = some (.cells cs t (0, 0))) : W.frozen? ⟨b, o, none⟩ = false := by simp [World.frozen?, h]
theorem there3 {W : World} {b : Nat} {a0 a1 a2 a3 a4 a5 a6 a7 a8 a9 a10 a11 a12 a13 a14 a15 a16 a17 : Value} (h : InBox W b #[a0, a1, a2, a3, a4, a5, a6, a7, a8, a9, a10, a11, a12, a13, a14, a15, a16, a17]) : W.there b 1 3 := by
 intro j hj
 unfold InBox at h
 refine ⟨?_, m_frozR h⟩
 rcases (show j = 0 ∨ j = 1 ∨ j = 2 by omega) with rfl | rfl | rfl <;> simp [World.cell?, h]
theorem size_vx : (Tryz.prog.info? 65).map (·.size) = some 3 := by kernel_rfl
set_option maxHeartbeats 2000000 in
theorem turn_r5 {W0 : World} {A : Act} {p ib rb off hm en ec mn mc : Nat} {eo mo : Option Addr} {id va : Int} {ha : Bool} {a0 a16 a17 z1 z2 z3 z4 z5 y0 y1 y2 y3 y4 y5 y6 y7 y8 y9 : Value} {K : Act → World → Prop} {Q' : Exit → Act → World → Prop} (hsz : A.tmps.size = 75) (hA0 : A.eval (.tmp 0) = .pointer (some ⟨p, 0, none⟩)) (hA7 : A.eval (.tmp 7) = .pointer (some ⟨ib, 0, none⟩)) (hA9 : A.eval (.tmp 9) = .pointer (some ⟨rb, off, none⟩)) (hA10 : A.eval (.tmp 10) = .slice mo mn mc) (hI : W0.cell? ⟨rb, off, none⟩ = some (.int .i64 id)) (hI1 : W0.cell? ⟨rb, off + 1, none⟩ = some (.int .i64 va)) (hI2 : W0.cell? ⟨rb, off + 2, none⟩ = some (.slice eo en ec)) (hP1 : W0.cell? ⟨p, 1, none⟩ = some (.map (some hm))) (hLk : ∀ W, W.heap[hm]? = W0.heap[hm]? → (Instr.lookup 120 (.map (some hm)) (.int .i64 id) false).run Tryz.prog W = .ok (.bool ha) W) (hml : hm < W0.heap.size) (hrb : ¬ rb = ib) (hpb : ¬ p = ib) (hhb : ¬ hm = ib) (hIn : InBox W0 ib #[a0, z1, z2, z3, z4, z5, y0, y1, y2, y3, y4, y5, y6, y7, y8, y9, a16, a17])
  (HK : ∀ X W, Fr W0 W (fun k => k = ib) ∧ InBox W ib #[a0, .int .i64 id, .int .i64 va, .slice eo en ec, .bool ha, .slice mo mn mc, y0, y1, y2, y3, y4, y5, y6, y7, y8, y9, a16, a17] → K (puts A X [39, 40, 41, 42, 43, 44, 45, 46, 47, 48, 49, 50, 51, 52, 1000014, 53, 1000016, 54, 1000018]) W) :
  Code.wp Tryz.prog ((Tryz.f85.body.bind (regionJ 5)).getD .skip) (Exit.then K Q') A W0 := by
 obtain ⟨ds, hds⟩ : ∃ ds, [39, 40, 41, 42, 43, 44, 45, 46, 47, 48, 49, 50, 51, 52, 1000014, 53, 1000016, 54, 1000018] = ds := ⟨_, rfl⟩
 have hin : ∀ {X : Nat → Value} {k : Nat}, k ∈ [39, 40, 41, 42, 43, 44, 45, 46, 47, 48, 49, 50, 51, 52, 1000014, 53, 1000016, 54, 1000018] → k < 75 → (puts A X ds).eval (.tmp k) = X k := fun hk hl => by rw [← hds]; exact eval_in hk (by rw [hsz]; exact hl)
 have hout : ∀ {X : Nat → Value} {k : Nat}, k ∉ [39, 40, 41, 42, 43, 44, 45, 46, 47, 48, 49, 50, 51, 52, 1000014, 53, 1000016, 54, 1000018] → (puts A X ds).eval (.tmp k) = A.eval (.tmp k) := fun hk => by rw [← hds]; exact eval_out hk
 have g0 : ds.getD 0 0 = 39 := by rw [← hds]; rfl
 have g1 : ds.getD 1 0 = 40 := by rw [← hds]; rfl
 have g2 : ds.getD 2 0 = 41 := by rw [← hds]; rfl
 have g3 : ds.getD 3 0 = 42 := by rw [← hds]; rfl
 have g4 : ds.getD 4 0 = 43 := by rw [← hds]; rfl
 have g5 : ds.getD 5 0 = 44 := by rw [← hds]; rfl
 have g6 : ds.getD 6 0 = 45 := by rw [← hds]; rfl
 have g7 : ds.getD 7 0 = 46 := by rw [← hds]; rfl
 have g8 : ds.getD 8 0 = 47 := by rw [← hds]; rfl
 have g9 : ds.getD 9 0 = 48 := by rw [← hds]; rfl
 have g10 : ds.getD 10 0 = 49 := by rw [← hds]; rfl
 have g11 : ds.getD 11 0 = 50 := by rw [← hds]; rfl
 have g12 : ds.getD 12 0 = 51 := by rw [← hds]; rfl
 have g13 : ds.getD 13 0 = 52 := by rw [← hds]; rfl
 have g14 : ds.getD 14 0 = 1000014 := by rw [← hds]; rfl
 have g15 : ds.getD 15 0 = 53 := by rw [← hds]; rfl
 have g16 : ds.getD 16 0 = 1000016 := by rw [← hds]; rfl
 have g17 : ds.getD 17 0 = 54 := by rw [← hds]; rfl
 have g18 : ds.getD 18 0 = 1000018 := by rw [← hds]; rfl
 obtain ⟨R, hR⟩ : ∃ R : World → World → Prop, ∀ W W', R W W' = (True) := ⟨fun W W' => True, fun _ _ => rfl⟩
 obtain ⟨V, hV, e0, e1, e2, e3, e4, e5, e6, e7, e8, e9, e10, e11, e12, e13, e14, e15, e16, e17, e18⟩ : ∃ V : Nat → Value → World → Prop, (∀ i v W W', V i v W → R W W' → V i v W') ∧ (∀ v W, V 0 v W = (v = .pointer (some ⟨rb, off, none⟩))) ∧ (∀ v W, V 1 v W = (v = .pointer (some ⟨rb, off, none⟩))) ∧ (∀ v W, V 2 v W = (v = .agg #[.int .i64 id, .int .i64 va, .slice eo en ec])) ∧ (∀ v W, V 3 v W = (v = .pointer (some ⟨p, 0, none⟩))) ∧ (∀ v W, V 4 v W = (v = .pointer (some ⟨p, 0, none⟩))) ∧ (∀ v W, V 5 v W = (v = .pointer (some ⟨p, 1, none⟩))) ∧ (∀ v W, V 6 v W = (v = .map (some hm))) ∧ (∀ v W, V 7 v W = (v = .pointer (some ⟨rb, off, none⟩))) ∧ (∀ v W, V 8 v W = (v = .pointer (some ⟨rb, off, none⟩))) ∧ (∀ v W, V 9 v W = (v = .pointer (some ⟨rb, off, none⟩))) ∧ (∀ v W, V 10 v W = (v = .int .i64 id)) ∧ (∀ v W, V 11 v W = (v = .bool ha)) ∧ (∀ v W, V 12 v W = (v = .slice mo mn mc)) ∧ (∀ v W, V 13 v W = (v = .pointer (some ⟨ib, 1, none⟩))) ∧ (∀ v W, V 14 v W = (True)) ∧ (∀ v W, V 15 v W = (v = .pointer (some ⟨ib, 4, none⟩))) ∧ (∀ v W, V 16 v W = (True)) ∧ (∀ v W, V 17 v W = (v = .pointer (some ⟨ib, 5, none⟩))) ∧ (∀ v W, V 18 v W = (True)) := by
  refine ⟨fun i v W => match i with
   | 0 => v = .pointer (some ⟨rb, off, none⟩)
   | 1 => v = .pointer (some ⟨rb, off, none⟩)
   | 2 => v = .agg #[.int .i64 id, .int .i64 va, .slice eo en ec]
   | 3 => v = .pointer (some ⟨p, 0, none⟩)
   | 4 => v = .pointer (some ⟨p, 0, none⟩)
   | 5 => v = .pointer (some ⟨p, 1, none⟩)
   | 6 => v = .map (some hm)
   | 7 => v = .pointer (some ⟨rb, off, none⟩)
   | 8 => v = .pointer (some ⟨rb, off, none⟩)
   | 9 => v = .pointer (some ⟨rb, off, none⟩)
   | 10 => v = .int .i64 id
   | 11 => v = .bool ha
   | 12 => v = .slice mo mn mc
   | 13 => v = .pointer (some ⟨ib, 1, none⟩)
   | 14 => True
   | 15 => v = .pointer (some ⟨ib, 4, none⟩)
   | 16 => True
   | 17 => v = .pointer (some ⟨ib, 5, none⟩)
   | 18 => True
   | _ => True, ?_, fun _ _ => rfl, fun _ _ => rfl, fun _ _ => rfl, fun _ _ => rfl, fun _ _ => rfl, fun _ _ => rfl, fun _ _ => rfl, fun _ _ => rfl, fun _ _ => rfl, fun _ _ => rfl, fun _ _ => rfl, fun _ _ => rfl, fun _ _ => rfl, fun _ _ => rfl, fun _ _ => rfl, fun _ _ => rfl, fun _ _ => rfl, fun _ _ => rfl, fun _ _ => rfl⟩
  intro i v W W' h hb
  rw [hR] at hb
  match i, h with
  | 0, h => exact h
  | 1, h => exact h
  | 2, h => exact h
  | 3, h => exact h
  | 4, h => exact h
  | 5, h => exact h
  | 6, h => exact h
  | 7, h => exact h
  | 8, h => exact h
  | 9, h => exact h
  | 10, h => exact h
  | 11, h => exact h
  | 12, h => exact h
  | 13, h => exact h
  | 14, h => exact h
  | 15, h => exact h
  | 16, h => exact h
  | 17, h => exact h
  | 18, h => exact h
  | _ + 19, _ => trivial
 obtain ⟨T, hTC, hTS, t0, t1, t2, t3⟩ : ∃ T : Nat → (Nat → Value) → World → Prop, (∀ m X W, T m X W → (Fr W0 W (fun k => k = ib))) ∧ (∀ m X X' W, (∀ i, i < 19 → ([none, none, none, none, none, none, none, none, none, none, none, none, none, none, some 0, none, some 1, none, some 2] : List (Option Nat)).getD i none ≠ none → X (ds.getD i 0) = X' (ds.getD i 0)) → T m X W → T m X' W) ∧ (∀ X W, T 0 X W = (Fr W0 W (fun k => k = ib) ∧ InBox W ib #[a0, z1, z2, z3, z4, z5, y0, y1, y2, y3, y4, y5, y6, y7, y8, y9, a16, a17])) ∧ (∀ X W, T 1 X W = (Fr W0 W (fun k => k = ib) ∧ InBox W ib #[a0, .int .i64 id, .int .i64 va, .slice eo en ec, z4, z5, y0, y1, y2, y3, y4, y5, y6, y7, y8, y9, a16, a17])) ∧ (∀ X W, T 2 X W = (Fr W0 W (fun k => k = ib) ∧ InBox W ib #[a0, .int .i64 id, .int .i64 va, .slice eo en ec, .bool ha, z5, y0, y1, y2, y3, y4, y5, y6, y7, y8, y9, a16, a17])) ∧ (∀ X W, T 3 X W = (Fr W0 W (fun k => k = ib) ∧ InBox W ib #[a0, .int .i64 id, .int .i64 va, .slice eo en ec, .bool ha, .slice mo mn mc, y0, y1, y2, y3, y4, y5, y6, y7, y8, y9, a16, a17])) := by
  refine ⟨fun m X W => match m with
   | 0 => Fr W0 W (fun k => k = ib) ∧ InBox W ib #[a0, z1, z2, z3, z4, z5, y0, y1, y2, y3, y4, y5, y6, y7, y8, y9, a16, a17]
   | 1 => Fr W0 W (fun k => k = ib) ∧ InBox W ib #[a0, .int .i64 id, .int .i64 va, .slice eo en ec, z4, z5, y0, y1, y2, y3, y4, y5, y6, y7, y8, y9, a16, a17]
   | 2 => Fr W0 W (fun k => k = ib) ∧ InBox W ib #[a0, .int .i64 id, .int .i64 va, .slice eo en ec, .bool ha, z5, y0, y1, y2, y3, y4, y5, y6, y7, y8, y9, a16, a17]
   | 3 => Fr W0 W (fun k => k = ib) ∧ InBox W ib #[a0, .int .i64 id, .int .i64 va, .slice eo en ec, .bool ha, .slice mo mn mc, y0, y1, y2, y3, y4, y5, y6, y7, y8, y9, a16, a17]
   | _ => False, ?_, ?_, fun _ _ => rfl, fun _ _ => rfl, fun _ _ => rfl, fun _ _ => rfl⟩
  ·intro m X W h
   match m, h with
   | 0, h => exact h.1
   | 1, h => exact h.1
   | 2, h => exact h.1
   | 3, h => exact h.1
  ·intro m X X' W he h
   match m, h with
   | 0, h => exact h
   | 1, h => exact h
   | 2, h => exact h
   | 3, h => exact h
 conv => arg 2; whnf
 refine wp_region_T ds [none, none, none, none, none, none, none, none, none, none, none, none, none, none, some 0, none, some 1, none, some 2] 3 V T R (by kernel_rfl) (by kernel_rfl) (by rw [hsz]; decide) (by rw [← hds]; kernel_rfl) (by kernel_rfl) hV hTS ?_ ?_ ?_
 ·rw [t0]; exact ⟨Fr.drew _ _, hIn⟩
 ·refine ⟨⟨?_, ?_⟩, ⟨?_, ?_⟩, ⟨?_, ?_⟩, ⟨?_, ?_⟩, ⟨?_, ?_⟩, ⟨?_, ?_⟩, ⟨?_, ?_⟩, ⟨?_, ?_⟩, ⟨?_, ?_⟩, ⟨?_, ?_⟩, ⟨?_, ?_⟩, ⟨?_, ?_⟩, ⟨?_, ?_⟩, ⟨?_, ?_⟩, ⟨?_, ?_⟩, ⟨?_, ?_⟩, ⟨?_, ?_⟩, ⟨?_, ?_⟩, ⟨?_, ?_⟩, trivial⟩
  ·intro _ X W m hTm hw hd hu
   have hC := hTC _ _ _ hTm
   have h0 := hout (X := X) (k := 9) (by decide)
   rw [hA9] at h0
   refine op_value (v := .pointer (some ⟨rb, off, none⟩)) (w' := W) ?_ ⟨_, rfl, by rw [e0], hTm, by rw [hR]; trivial⟩
   generalize (puts A X ds).eval = ρ at h0 ⊢
   go_simp
  ·intro m h; have h' : (none : Option Nat) = some m := h; cases h'
  ·intro _ X W m hTm hw hd hu
   have hC := hTC _ _ _ hTm
   have d0 := hd 0 (by kernel_rfl)
   rw [e0, g0] at d0
   have h0 := (hin (X := X) (k := 39) (by decide) (by decide)).trans d0
   refine op_value (v := .pointer (some ⟨rb, off, none⟩)) (w' := W) ?_ ⟨_, rfl, by rw [e1], hTm, by rw [hR]; trivial⟩
   generalize (puts A X ds).eval = ρ at h0 ⊢
   go_simp
  ·intro m h; have h' : (none : Option Nat) = some m := h; cases h'
  ·intro _ X W m hTm hw hd hu
   have hC := hTC _ _ _ hTm
   have d0 := hd 1 (by kernel_rfl)
   rw [e1, g1] at d0
   have h0 := (hin (X := X) (k := 40) (by decide) (by decide)).trans d0
   exact wp_load_mid 65 _ rfl rb off h0 [.int .i64 id, .int .i64 va, .slice eo en ec] _ (range3 (fr_cell hC hrb hI) (fr_cell hC hrb hI1) (fr_cell hC hrb hI2)) Tryz.underlying65 rfl size_vx ⟨_, rfl, by rw [e2], hTm, by rw [hR]; trivial⟩
  ·intro m h; have h' : (none : Option Nat) = some m := h; cases h'
  ·intro _ X W m hTm hw hd hu
   have hC := hTC _ _ _ hTm
   have h0 := hout (X := X) (k := 0) (by decide)
   rw [hA0] at h0
   refine op_value (v := .pointer (some ⟨p, 0, none⟩)) (w' := W) ?_ ⟨_, rfl, by rw [e3], hTm, by rw [hR]; trivial⟩
   generalize (puts A X ds).eval = ρ at h0 ⊢
   go_simp
  ·intro m h; have h' : (none : Option Nat) = some m := h; cases h'
  ·intro _ X W m hTm hw hd hu
   have hC := hTC _ _ _ hTm
   have d0 := hd 3 (by kernel_rfl)
   rw [e3, g3] at d0
   have h0 := (hin (X := X) (k := 42) (by decide) (by decide)).trans d0
   refine op_value (v := .pointer (some ⟨p, 0, none⟩)) (w' := W) ?_ ⟨_, rfl, by rw [e4], hTm, by rw [hR]; trivial⟩
   generalize (puts A X ds).eval = ρ at h0 ⊢
   go_simp
  ·intro m h; have h' : (none : Option Nat) = some m := h; cases h'
  ·intro _ X W m hTm hw hd hu
   have hC := hTC _ _ _ hTm
   have d0 := hd 4 (by kernel_rfl)
   rw [e4, g4] at d0
   have h0 := (hin (X := X) (k := 43) (by decide) (by decide)).trans d0
   refine op_value (v := .pointer (some ⟨p, 1, none⟩)) (w' := W) ?_ ⟨_, rfl, by rw [e5], hTm, by rw [hR]; trivial⟩
   generalize (puts A X ds).eval = ρ at h0 ⊢
   go_simp
  ·intro m h; have h' : (none : Option Nat) = some m := h; cases h'
  ·intro _ X W m hTm hw hd hu
   have hC := hTC _ _ _ hTm
   have d0 := hd 5 (by kernel_rfl)
   rw [e5, g5] at d0
   have h0 := (hin (X := X) (k := 44) (by decide) (by decide)).trans d0
   have c0 := fr_cell hC hpb hP1
   refine op_value (v := .map (some hm)) (w' := W) ?_ ⟨_, rfl, by rw [e6], hTm, by rw [hR]; trivial⟩
   generalize (puts A X ds).eval = ρ at h0 ⊢
   go_simp
  ·intro m h; have h' : (none : Option Nat) = some m := h; cases h'
  ·intro _ X W m hTm hw hd hu
   have hC := hTC _ _ _ hTm
   have h0 := hout (X := X) (k := 9) (by decide)
   rw [hA9] at h0
   refine op_value (v := .pointer (some ⟨rb, off, none⟩)) (w' := W) ?_ ⟨_, rfl, by rw [e7], hTm, by rw [hR]; trivial⟩
   generalize (puts A X ds).eval = ρ at h0 ⊢
   go_simp
  ·intro m h; have h' : (none : Option Nat) = some m := h; cases h'
  ·intro _ X W m hTm hw hd hu
   have hC := hTC _ _ _ hTm
   have d0 := hd 7 (by kernel_rfl)
   rw [e7, g7] at d0
   have h0 := (hin (X := X) (k := 46) (by decide) (by decide)).trans d0
   refine op_value (v := .pointer (some ⟨rb, off, none⟩)) (w' := W) ?_ ⟨_, rfl, by rw [e8], hTm, by rw [hR]; trivial⟩
   generalize (puts A X ds).eval = ρ at h0 ⊢
   go_simp
  ·intro m h; have h' : (none : Option Nat) = some m := h; cases h'
  ·intro _ X W m hTm hw hd hu
   have hC := hTC _ _ _ hTm
   have d0 := hd 8 (by kernel_rfl)
   rw [e8, g8] at d0
   have h0 := (hin (X := X) (k := 47) (by decide) (by decide)).trans d0
   refine op_value (v := .pointer (some ⟨rb, off, none⟩)) (w' := W) ?_ ⟨_, rfl, by rw [e9], hTm, by rw [hR]; trivial⟩
   generalize (puts A X ds).eval = ρ at h0 ⊢
   go_simp
  ·intro m h; have h' : (none : Option Nat) = some m := h; cases h'
  ·intro _ X W m hTm hw hd hu
   have hC := hTC _ _ _ hTm
   have d0 := hd 9 (by kernel_rfl)
   rw [e9, g9] at d0
   have h0 := (hin (X := X) (k := 48) (by decide) (by decide)).trans d0
   have c0 := fr_cell hC hrb hI
   refine op_value (v := .int .i64 id) (w' := W) ?_ ⟨_, rfl, by rw [e10], hTm, by rw [hR]; trivial⟩
   generalize (puts A X ds).eval = ρ at h0 ⊢
   go_simp
  ·intro m h; have h' : (none : Option Nat) = some m := h; cases h'
  ·intro _ X W m hTm hw hd hu
   have hC := hTC _ _ _ hTm
   have d0 := hd 6 (by kernel_rfl)
   rw [e6, g6] at d0
   have h0 := (hin (X := X) (k := 45) (by decide) (by decide)).trans d0
   have d1 := hd 10 (by kernel_rfl)
   rw [e10, g10] at d1
   have h1 := (hin (X := X) (k := 49) (by decide) (by decide)).trans d1
   have c0 := hLk W (hC.block hm hml hhb)
   refine op_value (v := .bool ha) (w' := W) ?_ ⟨_, rfl, by rw [e11], hTm, by rw [hR]; trivial⟩
   generalize (puts A X ds).eval = ρ at h0 h1 ⊢
   go_simp
  ·intro m h; have h' : (none : Option Nat) = some m := h; cases h'
  ·intro _ X W m hTm hw hd hu
   have hC := hTC _ _ _ hTm
   have h0 := hout (X := X) (k := 10) (by decide)
   rw [hA10] at h0
   refine op_value (v := .slice mo mn mc) (w' := W) ?_ ⟨_, rfl, by rw [e12], hTm, by rw [hR]; trivial⟩
   generalize (puts A X ds).eval = ρ at h0 ⊢
   go_simp
  ·intro m h; have h' : (none : Option Nat) = some m := h; cases h'
  ·intro _ X W m hTm hw hd hu
   have hC := hTC _ _ _ hTm
   have h0 := hout (X := X) (k := 7) (by decide)
   rw [hA7] at h0
   refine op_value (v := .pointer (some ⟨ib, 1, none⟩)) (w' := W) ?_ ⟨_, rfl, by rw [e13], hTm, by rw [hR]; trivial⟩
   generalize (puts A X ds).eval = ρ at h0 ⊢
   go_simp
  ·intro m h; have h' : (none : Option Nat) = some m := h; cases h'
  ·intro h; have h' : (some 0 : Option Nat) = none := h; cases h'
  ·intro m hm0 X W hTm hd hu
   have hm1 : some 0 = some m := hm0
   cases hm1
   have hC := hTC _ _ _ hTm
   have d0 := hd 13 (by kernel_rfl)
   rw [e13, g13] at d0
   have h0 := (hin (X := X) (k := 52) (by decide) (by decide)).trans d0
   have d1 := hd 2 (by kernel_rfl)
   rw [e2, g2] at d1
   have h1 := (hin (X := X) (k := 41) (by decide) (by decide)).trans d1
   rw [t0] at hTm
   obtain ⟨hf, hbx⟩ := hTm
   exact wp_store_mid 65 _ _ rfl ib 1 #[.int .i64 id, .int .i64 va, .slice eo en ec] h0 h1 (there3 hbx) size_vx (by simp [Value.oneCell']) ⟨_, rfl, by rw [e14]; trivial, by rw [t1]; exact ⟨hf.trans (fr_setCells (S := fun k => k = ib) ib rfl _ _ _) (fun _ _ h => h), setCells_heap _ 1 W _ hbx (by simp)⟩, by rw [hR]; trivial⟩
  ·intro _ X W m hTm hw hd hu
   have hC := hTC _ _ _ hTm
   have h0 := hout (X := X) (k := 7) (by decide)
   rw [hA7] at h0
   refine op_value (v := .pointer (some ⟨ib, 4, none⟩)) (w' := W) ?_ ⟨_, rfl, by rw [e15], hTm, by rw [hR]; trivial⟩
   generalize (puts A X ds).eval = ρ at h0 ⊢
   go_simp
  ·intro m h; have h' : (none : Option Nat) = some m := h; cases h'
  ·intro h; have h' : (some 1 : Option Nat) = none := h; cases h'
  ·intro m hm0 X W hTm hd hu
   have hm1 : some 1 = some m := hm0
   cases hm1
   have hC := hTC _ _ _ hTm
   have d0 := hd 15 (by kernel_rfl)
   rw [e15, g15] at d0
   have h0 := (hin (X := X) (k := 53) (by decide) (by decide)).trans d0
   have d1 := hd 11 (by kernel_rfl)
   rw [e11, g11] at d1
   have h1 := (hin (X := X) (k := 50) (by decide) (by decide)).trans d1
   rw [t1] at hTm
   obtain ⟨hf, hbx⟩ := hTm
   obtain ⟨zz, q0⟩ : ∃ zz, W.cell? ⟨ib, 4, none⟩ = some zz := by unfold InBox at hbx; simp [World.cell?, hbx]
   have q1 : W.frozen? ⟨ib, 4, none⟩ = false := m_frozR hbx
   refine op_skip (w' := W.setCell ⟨ib, 4, none⟩ (.bool ha)) ?_ ⟨_, rfl, by rw [e16]; trivial, ?_, by rw [hR]; trivial⟩
   ·generalize (puts A X ds).eval = ρ at h0 h1 ⊢
    go_simp
   ·rw [t2]
    exact ⟨hf.trans (Fr.setCell (S := fun k => k = ib) W ⟨ib, 4, none⟩ _ rfl) (fun _ _ h => h), set_heap hbx _ _⟩
  ·intro _ X W m hTm hw hd hu
   have hC := hTC _ _ _ hTm
   have h0 := hout (X := X) (k := 7) (by decide)
   rw [hA7] at h0
   refine op_value (v := .pointer (some ⟨ib, 5, none⟩)) (w' := W) ?_ ⟨_, rfl, by rw [e17], hTm, by rw [hR]; trivial⟩
   generalize (puts A X ds).eval = ρ at h0 ⊢
   go_simp
  ·intro m h; have h' : (none : Option Nat) = some m := h; cases h'
  ·intro h; have h' : (some 2 : Option Nat) = none := h; cases h'
  ·intro m hm0 X W hTm hd hu
   have hm1 : some 2 = some m := hm0
   cases hm1
   have hC := hTC _ _ _ hTm
   have d0 := hd 17 (by kernel_rfl)
   rw [e17, g17] at d0
   have h0 := (hin (X := X) (k := 54) (by decide) (by decide)).trans d0
   have d1 := hd 12 (by kernel_rfl)
   rw [e12, g12] at d1
   have h1 := (hin (X := X) (k := 51) (by decide) (by decide)).trans d1
   rw [t2] at hTm
   obtain ⟨hf, hbx⟩ := hTm
   obtain ⟨zz, q0⟩ : ∃ zz, W.cell? ⟨ib, 5, none⟩ = some zz := by unfold InBox at hbx; simp [World.cell?, hbx]
   have q1 : W.frozen? ⟨ib, 5, none⟩ = false := m_frozR hbx
   refine op_skip (w' := W.setCell ⟨ib, 5, none⟩ (.slice mo mn mc)) ?_ ⟨_, rfl, by rw [e18]; trivial, ?_, by rw [hR]; trivial⟩
   ·generalize (puts A X ds).eval = ρ at h0 h1 ⊢
    go_simp
   ·rw [t3]
    exact ⟨hf.trans (Fr.setCell (S := fun k => k = ib) W ⟨ib, 5, none⟩ _ rfl) (fun _ _ h => h), set_heap hbx _ _⟩
 ·intro X W hall hTm
  have r0 := hall 0 (by decide)
  rw [e0, g0] at r0
  have r1 := hall 1 (by decide)
  rw [e1, g1] at r1
  have r2 := hall 2 (by decide)
  rw [e2, g2] at r2
  have r3 := hall 3 (by decide)
  rw [e3, g3] at r3
  have r4 := hall 4 (by decide)
  rw [e4, g4] at r4
  have r5 := hall 5 (by decide)
  rw [e5, g5] at r5
  have r6 := hall 6 (by decide)
  rw [e6, g6] at r6
  have r7 := hall 7 (by decide)
  rw [e7, g7] at r7
  have r8 := hall 8 (by decide)
  rw [e8, g8] at r8
  have r9 := hall 9 (by decide)
  rw [e9, g9] at r9
  have r10 := hall 10 (by decide)
  rw [e10, g10] at r10
  have r11 := hall 11 (by decide)
  rw [e11, g11] at r11
  have r12 := hall 12 (by decide)
  rw [e12, g12] at r12
  have r13 := hall 13 (by decide)
  rw [e13, g13] at r13
  have r15 := hall 15 (by decide)
  rw [e15, g15] at r15
  have r17 := hall 17 (by decide)
  rw [e17, g17] at r17
  rw [t3] at hTm
  have := HK X W hTm
  rw [hds] at this
  exact this
end
end Go.Proofs.YtmgjlamglhpnaaaGreat
