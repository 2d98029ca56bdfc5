/- A writer carried through several calls. -/
import Derived.Test.YtmgjlamglhpnaaaGreatGrBytesM
import Derived.Test.YtmgjlamglhpnaaaGreatWriterWM
import Derived.Test.YtmgjlamglhpnaaaGreatGrTakeMM
import Derived.Test.YtmgjlamglhpnaaaGreatGrWalk1M
import Derived.Test.YtmgjlamglhpnaaaGreatGrTake3M
import Derived.Test.YtmgjlamglhpnaaaGreatGrDataM
import Derived.Test.YtmgjlamglhpnaaaGreatProg
import Derived.WalkKit
import Derived.OwnWalk
import Derived.Below
import Derived.Test.YtmgjlamglhpnaaaGreatRegVM
import Derived.Test.YtmgjlamglhpnaaaGreatGrFind2M
import Derived.Deep.Cut
import Derived.Deep.DeepCutAuto
namespace Go.Proofs.YtmgjlamglhpnaaaGreat
set_option maxRecDepth 100000
open Go.RowKit
def WTo (w w' : World) (base p : Nat) (v : Value) (l' : List UInt8) : Prop := ∃ v', Wr w' base p v' l' ∧ Fr w w' (fun k => k = p ∨ v.ownBlock = some k) ∧ Row w v v'
theorem WTo.refl {w : World} {base p : Nat} {v : Value} {l : List UInt8} (h : Wr w base p v l) : WTo w w base p v l := ⟨v, h, Fr.refl _ _, Row.refl _ _⟩
theorem WTo.alloc {w w' : World} {base p : Nat} {v : Value} {l : List UInt8} (h : WTo w w' base p v l) (o : Obj) : WTo w (w'.alloc o) base p v l := by
 obtain ⟨v', hw, hf, hr⟩ := h
 exact ⟨v', hw.kept (Fr.alloc w' o (fun _ => False)) (fun h => h) (fun _ _ h => h), hf.trans (Fr.alloc w' o (fun _ => False)) (fun _ _ h => h.elim), hr⟩
theorem WTo.then {w w1 w2 : World} {base p : Nat} {v v1 : Value} {l' : List UInt8} (h1 : Fr w w1 (fun k => k = p ∨ v.ownBlock = some k)) (hr : Row w v v1) (h2 : WTo w1 w2 base p v1 l') : WTo w w2 base p v l' := by
 obtain ⟨v', hw, hf, hr'⟩ := h2
 exact ⟨v', hw, h1.frame2 hr hf, hr.trans hr' h1.size⟩
theorem WTo.cell {w w' : World} {base p : Nat} {v : Value} {l : List UInt8} (h : WTo w w' base p v l) {b o : Nat} {u : Value} (hb : b ≠ p) (hv : v.ownBlock ≠ some b) (hc : w.cell? ⟨b, o, none⟩ = some u) : w'.cell? ⟨b, o, none⟩ = some u := by
 obtain ⟨v', _, hf, _⟩ := h
 exact fr_cell hf (by rintro (e | e); exact hb e; exact hv e) hc
theorem Wr.al {w : World} {base p : Nat} {v : Value} {l : List UInt8} (h : Wr w base p v l) (o : Obj) : Wr (w.alloc o) base p v l := h.kept (Fr.alloc w o (fun _ => False)) (fun h => h) (fun _ _ h => h)
theorem Wr.olt {w : World} {base p : Nat} {v : Value} {l : List UInt8} (h : Wr w base p v l) : ∀ k, v.ownBlock = some k → k < w.heap.size := fun k hk => (h.own.lt k hk).2
theorem wsigned_w {w0 w : World} {base p : Nat} {v : Value} {l : List UInt8} (k : Int) (h : WTo w0 w base p v l) (hk : I64 k) (hroom : l.length + 10 ≤ 140737488355328) :
  Calls Tryz.prog 27 #[.pointer (some ⟨p, 0, none⟩), .int .i64 k] w fun r w' => r = .returned (.tuple #[]) ∧ WTo w0 w' base p v (l ++ sgB k) := by
 obtain ⟨v1, hw, hf, hr⟩ := h
 exact (wsigned_any k hw hk.1 hk.2 hroom).mono fun r w' ⟨h1, h2⟩ => ⟨h1, WTo.then hf hr h2⟩
theorem wcount_w {w0 w : World} {base p : Nat} {v : Value} {l : List UInt8} (n : Nat) (h : WTo w0 w base p v l) (hn : n ≤ 9223372036854775807) (hroom : l.length + 10 ≤ 140737488355328) :
  Calls Tryz.prog 26 #[.pointer (some ⟨p, 0, none⟩), .int .i64 n] w fun r w' => r = .returned (.tuple #[]) ∧ WTo w0 w' base p v (l ++ numB n) := by
 obtain ⟨v1, hw, hf, hr⟩ := h
 have := wcount_any (n : Int) hw (by omega) hroom
 rw [Int.toNat_natCast] at this
 exact this.mono fun r w' ⟨h1, h2⟩ => ⟨h1, WTo.then hf hr h2⟩
theorem WTo.fromAlloc {w w' : World} {base p : Nat} {v : Value} {l : List UInt8} {o : Obj} (h : WTo (w.alloc o) w' base p v l) : WTo w w' base p v l := by
 obtain ⟨v', hw, hf, hr⟩ := h
 refine ⟨v', hw, (Fr.alloc w o (fun _ => False)).mono (fun _ _ h => h.elim) |>.trans hf (fun _ _ h => h), ?_⟩
 rcases hr with e | ⟨g, e, hg⟩
 ·exact Or.inl e
 ·exact Or.inr ⟨g, e, by simp at hg; omega⟩
theorem vx_len1 {l : List UInt8} {x : Vx} (hok : x.ok) (hroom : l.length + (30 + 20 * x.es.length) ≤ 140737488355328) : l.length + 10 ≤ 140737488355328 ∧ (l ++ sgB x.id).length + 10 ≤ 140737488355328 ∧ (l ++ sgB x.id ++ sgB x.val).length + 10 ≤ 140737488355328 ∧
  ∀ j (h : j < x.es.length), (l ++ sgB x.id ++ sgB x.val ++ numB x.es.length ++ (x.es.take j).flatMap edB).length + 10 ≤ 140737488355328 ∧ (l ++ sgB x.id ++ sgB x.val ++ numB x.es.length ++ (x.es.take j).flatMap edB ++ sgB x.es[j].t).length + 10 ≤ 140737488355328 := by
 have h1 := sgB_len hok.id
 have h2 := sgB_len hok.val
 have h3 := numB_len10 (n := x.es.length) (by have := hok.len; omega)
 refine ⟨by omega, by rw [List.length_append]; omega, by simp only [List.length_append]; omega, fun j h => ?_⟩
 have h4 := edsB_len (x.es.take j) (fun e he => hok.es e (List.mem_of_mem_take he))
 have h5 := sgB_len (hok.es _ (List.getElem_mem h)).t
 rw [List.length_take] at h4
 simp only [List.length_append]
 omega
set_option maxHeartbeats 2000000 in
theorem putvertex_any {w : World} {base p : Nat} {v : Value} {l : List UInt8} {eo : Option Addr} (x : Vx) (ec : Nat) (h : Wr w base p v l) (hE : EdAt w (fun k => k ≠ p ∧ v.ownBlock ≠ some k) eo x.es) (hok : x.ok) (hroom : l.length + (30 + 20 * x.es.length) ≤ 140737488355328) :
  Calls Tryz.prog 57 #[.pointer (some ⟨p, 0, none⟩), .agg #[.int .i64 x.id, .int .i64 x.val, .slice eo x.es.length ec]] w fun r w' => r = .returned (.tuple #[]) ∧ WTo w w' base p v (l ++ vxB x) := by
 have hbp : w.heap.size ≠ p := by have := h.lt; omega
 have hbv : v.ownBlock ≠ some w.heap.size := fun e => by have := h.olt _ e; omega
 obtain ⟨W0, hW0⟩ : ∃ W0, w.alloc (.cells #[.int .i64 x.id, .int .i64 x.val, .slice eo x.es.length ec] 65) = W0 := ⟨_, rfl⟩
 have hT0 : WTo W0 W0 base p v l := by rw [← hW0]; exact WTo.refl (h.al _)
 have hE0 : EdAt W0 (fun k => k ≠ p ∧ v.ownBlock ≠ some k) eo x.es := by rw [← hW0]; exact hE.new (one_new _ _)
 obtain ⟨k0, k1, k2⟩ := box3 (show W0.heap[w.heap.size]? = _ by rw [← hW0]; exact heap_alloc_new _ _)
 have HF : Hid (∀ w' l', WTo W0 w' base p v l' → WTo w w' base p v l') := fun w' l' h' => by rw [← hW0] at h'; exact h'.fromAlloc
 obtain ⟨r0, r1, r2, r3⟩ := vx_len1 hok hroom
 have H0 : Hid _ := r0
 have H1 : Hid _ := r1
 have H2 : Hid _ := r2
 have H3 : Hid _ := r3
 have HB : Hid (l ++ vxB x = l ++ sgB x.id ++ sgB x.val ++ numB x.es.length ++ x.es.flatMap edB) := by show _ = _; unfold vxB; simp only [List.append_assoc]
 have HI : Hid (I64 x.id ∧ I64 x.val) := ⟨hok.id, hok.val⟩
 have HO : Hid (∀ e ∈ x.es, e.ok) := hok.es
 have hxl : x.es.length ≤ 9223372036854775807 := Nat.le_trans hok.len (by decide)
 clear r0 r1 r2 r3 hroom hok h hE
 go_enter Tryz.func57, Tryz.ntmps57
 go_wp2_with (first
  | (go_at_call 27; refine (wsigned_w _ (by first | exact hT | exact hT0) (by first | exact HI.out.1 | exact HI.out.2) (by first | exact H0.out | exact H1.out)).mono ?_; rintro r w1 ⟨rfl, hT⟩; have c0 := hT.cell hbp hbv k0; have c1 := hT.cell hbp hbv k1; have c2 := hT.cell hbp hbv k2)
  | (go_at_call 26; refine (wcount_w _ hT hxl H2.out).mono ?_; rintro r w1 ⟨rfl, hT⟩; have c0 := hT.cell hbp hbv k0; have c1 := hT.cell hbp hbv k1; have c2 := hT.cell hbp hbv k2))
 go_loopw [5, 22] (fun _ i wr => ∃ j : Nat, j ≤ x.es.length ∧ i = .int .i64 j ∧ WTo W0 wr base p v (l ++ sgB x.id ++ sgB x.val ++ numB x.es.length ++ (x.es.take j).flatMap edB)) (fun _ i _ => x.es.length - (intOf i).toNat)
 case atStart => exact ⟨0, Nat.zero_le _, rfl, by simpa using hT⟩
 case round =>
  obtain ⟨j, hj, rfl, hTj⟩ := hrel
  by_cases hlt : j < x.es.length
  ·obtain ⟨b, off, rfl, hP, hc⟩ := hE0 (by omega)
   have d0 := hTj.cell hP.1 hP.2 (hc j hlt).1
   have d1 := hTj.cell hP.1 hP.2 (hc j hlt).2
   have HR : Hid _ := H3.out j hlt
   have HZ : Hid (x.es[j].ok) := HO.out _ (List.getElem_mem hlt)
   have HS : Hid _ := eds_snoc x.es j hlt
   generalize x.es[j] = z at d0 d1 HR HZ HS
   obtain ⟨vj, hwj, hfj, hrj⟩ := hTj
   have hbj : wr.heap.size ≠ p := by have := hwj.lt; omega
   have hvj : vj.ownBlock ≠ some wr.heap.size := fun e => by have := hwj.olt _ e; omega
   obtain ⟨Wj, hWj⟩ : ∃ Wj, wr.alloc (.cells #[.int .i64 z.t, .int .i64 z.w] 62) = Wj := ⟨_, rfl⟩
   have hTT := WTo.refl (hwj.al (.cells #[.int .i64 z.t, .int .i64 z.w] 62))
   obtain ⟨q0, q1⟩ := box2 (show Wj.heap[wr.heap.size]? = _ by rw [← hWj]; exact heap_alloc_new _ _)
   rw [hWj] at hTT
   have HG : Hid (∀ w' l', WTo Wj w' base p vj l' → WTo W0 w' base p v l') := fun w' l' h' => by rw [← hWj] at h'; exact WTo.then hfj hrj h'.fromAlloc
   clear hc hT hwj hfj hrj
   go_wp2_with (go_at_call 27; refine (wsigned_w _ (by first | exact hT | exact hTT) (by first | exact HZ.out.t | exact HZ.out.w) (by first | exact HR.out.1 | exact HR.out.2)).mono ?_; rintro r w1 ⟨rfl, hT⟩; have c0 := hT.cell hbj hvj q0; have c1 := hT.cell hbj hvj q1)
   go_roundw
   case rel => exact ⟨j + 1, by omega, by go_num, HG.out _ _ (by rw [HS.out, show edB z = sgB z.t ++ sgB z.w from rfl]; simpa only [List.append_assoc] using hT)⟩
   case measure => simp [intOf]; omega
  ·obtain rfl : j = x.es.length := by omega
   go_wp2
   go_end0
   exact ⟨rfl, HF.out _ _ (by rw [HB.out]; simpa using hTj)⟩
theorem put_rooms {l : List UInt8} {G : List Vx} (hok : ∀ v ∈ G, v.ok) (hl : G.length ≤ 9223372036854775807) (hroom : l.length + 10 + room G ≤ 140737488355328) : l.length + 10 ≤ 140737488355328 ∧
  ∀ j (h : j < G.length), (l ++ numB G.length ++ (G.take j).flatMap vxB).length + (30 + 20 * G[j].es.length) ≤ 140737488355328 := by
 refine ⟨by omega, fun j h => ?_⟩
 have h1 := numB_len10 (n := G.length) (by omega)
 have h2 := vxsB_len (G.take j) (fun v hv => hok v (List.mem_of_mem_take hv))
 have h3 := room_at h
 simp only [List.length_append]
 omega
set_option maxHeartbeats 2000000 in
theorem put_any {w : World} {base p : Nat} {v : Value} {l : List UInt8} {ao : Option Addr} (G : List Vx) (cap : Nat) (h : Wr w base p v l) (hG : VxAt w (fun k => k ≠ p ∧ v.ownBlock ≠ some k) ao G) (hok : ∀ v ∈ G, v.ok) (hl : G.length ≤ 9223372036854775807) (hroom : l.length + 10 + room G ≤ 140737488355328) :
  Calls Tryz.prog 25 #[.pointer (some ⟨p, 0, none⟩), .agg #[.slice ao G.length cap]] w fun r w' => r = .returned (.tuple #[]) ∧ WTo w w' base p v (l ++ grB G) := by
 have hbp : w.heap.size ≠ p := by have := h.lt; omega
 have hbv : v.ownBlock ≠ some w.heap.size := fun e => by have := h.olt _ e; omega
 obtain ⟨W0, hW0⟩ : ∃ W0, w.alloc (.cells #[.slice ao G.length cap] 24) = W0 := ⟨_, rfl⟩
 have hT0 : WTo W0 W0 base p v l := by rw [← hW0]; exact WTo.refl (h.al _)
 have hG0 : VxAt W0 (fun k => k ≠ p ∧ v.ownBlock ≠ some k) ao G := by rw [← hW0]; exact hG.new (one_new _ _)
 have k0 : W0.cell? ⟨w.heap.size, 0, none⟩ = some (.slice ao G.length cap) := by rw [← hW0]; exact cell_of_one (heap_alloc_new _ _)
 have HF : Hid (∀ w' l', WTo W0 w' base p v l' → WTo w w' base p v l') := fun w' l' h' => by rw [← hW0] at h'; exact h'.fromAlloc
 obtain ⟨r0, r1⟩ := put_rooms hok hl hroom
 have H0 : Hid _ := r0
 have H1 : Hid _ := r1
 have HB : Hid (l ++ grB G = l ++ numB G.length ++ G.flatMap vxB) := by show _ = _; unfold grB; simp only [List.append_assoc]
 have HO : Hid (∀ v ∈ G, v.ok) := hok
 clear r0 r1 hroom hok h hG
 go_enter Tryz.func25, Tryz.ntmps25
 go_wp2_with (go_at_call 26; refine (wcount_w _ hT0 hl H0.out).mono ?_; rintro r w1 ⟨rfl, hT⟩; have c0 := hT.cell hbp hbv k0)
 go_loopw [5, 14] (fun _ i wr => ∃ j : Nat, j ≤ G.length ∧ i = .int .i64 j ∧ WTo W0 wr base p v (l ++ numB G.length ++ (G.take j).flatMap vxB)) (fun _ i _ => G.length - (intOf i).toNat)
 case atStart => exact ⟨0, Nat.zero_le _, rfl, by simpa using hT⟩
 case round =>
  obtain ⟨j, hj, rfl, hTj⟩ := hrel
  by_cases hlt : j < G.length
  ·obtain ⟨b, off, rfl, hP, hc⟩ := hG0 (by omega)
   obtain ⟨eo, ec, e0, e1, e2, e3⟩ := hc j hlt
   have d0 := hTj.cell hP.1 hP.2 e0
   have d1 := hTj.cell hP.1 hP.2 e1
   have d2 := hTj.cell hP.1 hP.2 e2
   have HR : Hid _ := H1.out j hlt
   have HZ : Hid (G[j].ok) := HO.out _ (List.getElem_mem hlt)
   have HS : Hid _ := vxs_snoc G j hlt
   obtain ⟨vj, hwj, hfj, hrj⟩ := hTj
   have hsz := hfj.size
   have e4 : EdAt wr (fun k => k ≠ p ∧ vj.ownBlock ≠ some k) eo G[j].es := e3.kept hfj (fun k hk hp => ⟨by rintro (e | e); exact hp.1 e; exact hp.2 e, hp.1, fun e => by
    rcases hrj with e' | ⟨g, e', hg⟩
    ·rw [e'] at e; exact hp.2 e
    ·rw [e'] at e; cases e; omega⟩)
   generalize G[j] = z at d0 d1 d2 HR HZ HS e4
   have hPV := fun o => putvertex_any z ec (hwj.al o) (e4.new (one_new wr o)) HZ.out HR.out
   have HG : Hid (∀ o w' l', WTo (wr.alloc o) w' base p vj l' → WTo W0 w' base p v l') := fun o w' l' h' => WTo.then hfj hrj h'.fromAlloc
   clear hc hT hwj hfj hrj e0 e1 e2 e3 e4
   go_wp2_with (go_at_call 57; refine (hPV _).mono ?_; rintro r w1 ⟨rfl, hT⟩)
   go_roundw
   case rel => exact ⟨j + 1, by omega, by go_num, HG.out _ _ _ (by rw [HS.out]; simpa only [List.append_assoc] using hT)⟩
   case measure => simp [intOf]; omega
  ·obtain rfl : j = G.length := by omega
   go_wp2
   go_end0
   exact ⟨rfl, HF.out _ _ (by rw [HB.out]; simpa using hTj)⟩
theorem WTo.new {w w1 w2 : World} {B base p : Nat} {v : Value} {l l' : List UInt8} (hb : Below B w w1) (hw : Wr w1 base p v l) (h : WTo w1 w2 base p v l') (hp : B ≤ p) (hB : B ≤ base) : Below B w w2 := by
 obtain ⟨v', _, hf, _⟩ := h
 exact hb.trans (hf.below (Nat.le_trans hp (Nat.le_of_lt hw.lt)) (fun k hk => by
  rcases hk with rfl | hk
  ·exact hp
  ·exact Nat.le_trans hB (hw.own.lt k hk).1))
theorem bel_drewN {B : Nat} {w wr : World} (h : Below B w wr) (n : Nat) : Below B w (wr.drewN n) := by
 induction n with
 | zero => exact h
 | succ n ih => exact ih.drew
theorem rdGs_to {s : ByteArray} {a : Nat} {e : Int} (ha : a ≤ s.size) : (rdGs s a e).2.1 ≤ s.size ∧ (rdGs s a e).1.length ≤ 256 ∧ ∀ x ∈ (rdGs s a e).1, x.ok := by
 obtain ⟨⟨n, a1, e1⟩, h1⟩ : ∃ q, rdCount s a e (256 : Nat) = q := ⟨_, rfl⟩
 have g1 := rdCount_to ha h1
 have g2 := rdVs_to s n a1 e1 g1.1
 have hq : rdGs s a e = rdVs s n a1 e1 := by unfold rdGs; rw [show (256 : Int) = ((256 : Nat) : Int) from rfl, h1]
 rw [hq]
 exact ⟨g2.1, Nat.le_trans g2.2.1 g1.2.1, g2.2.2⟩
theorem rdG_to {s : ByteArray} {a : Nat} {e : Int} (ha : a ≤ s.size) : (rdG s a e).2.1 ≤ s.size ∧ (rdG s a e).1.length ≤ 256 ∧ ∀ x ∈ (rdG s a e).1, x.ok := by
 have g := rdGs_to (e := e) ha
 unfold rdG
 dsimp only
 split
 ·split
  ·exact g
  ·exact ⟨g.1, Nat.zero_le _, fun x hx => by cases hx⟩
 ·exact ⟨g.1, Nat.zero_le _, fun x hx => by cases hx⟩
theorem take_to {w : World} {p : Nat} {s : ByteArray} {a x : Nat} {e y : Int} {G : List Vx} (h : Rd w p s a e) (hs : s.size ≤ maxLen) (ha : a ≤ s.size) (hq : rdG s a e = (G, x, y)) :
  Calls Tryz.prog 29 #[.pointer (some ⟨p, 0, none⟩)] w fun r w' => ∃ ao cap, r = .returned (.agg #[.slice ao G.length cap]) ∧ VxAt w' (fun k => w.heap.size ≤ k) ao G ∧ Rd w' p s x y ∧ Fr w w' (fun k => k = p) := by
 have := take_any h hs ha; rw [hq] at this; exact this
theorem rend_to {w : World} {p : Nat} {s : ByteArray} {a : Nat} {e z : Int} (h : Rd w p s a e) (hs : s.size ≤ maxLen) (ha : a ≤ s.size) (hz : rdEnd s a e = z) :
  Calls Tryz.prog 23 #[.pointer (some ⟨p, 0, none⟩)] w fun r w' => r = .returned (.int .i64 z) ∧ Rd w' p s a z ∧ Fr w w' (fun k => k = p) := by
 have := rend_any h hs ha; rw [hz] at this; exact this
theorem rdEs_enc {s : ByteArray} : ∀ (L : List Ed) (a c : List UInt8), s.data.toList = a ++ (L.flatMap edB ++ c) → (∀ e ∈ L, e.ok) → rdEs s L.length a.length 0 = (L, (a ++ L.flatMap edB).length, 0) := by
 intro L
 induction L with
 | nil => intro a c _ _; simp [rdEs]
 | cons e L ih =>
  intro a c h hok
  have he := hok e (by simp)
  have h1 : s.data.toList = a ++ (sgB e.t ++ (sgB e.w ++ (L.flatMap edB ++ c))) := by rw [h]; simp [edB]
  have h2 : s.data.toList = (a ++ sgB e.t) ++ (sgB e.w ++ (L.flatMap edB ++ c)) := by rw [h1]; simp
  have h3 : s.data.toList = (a ++ sgB e.t ++ sgB e.w) ++ (L.flatMap edB ++ c) := by rw [h1]; simp
  have q1 := num_at h1 (fold_lt he.t)
  have q2 := num_at h2 (fold_lt he.w)
  rw [List.length_cons, rdEs_go q1 q2]
  have := ih (a ++ sgB e.t ++ sgB e.w) c h3 (fun x hx => hok x (by simp [hx]))
  rw [show (a ++ sgB e.t ++ numB (foldN e.w).toNat) = a ++ sgB e.t ++ sgB e.w from rfl, this, sg_back he.t, sg_back he.w]
  simp [edB]
theorem rdV_enc {s : ByteArray} {v : Vx} {a c : List UInt8} (h : s.data.toList = a ++ (vxB v ++ c)) (hok : v.ok) (hl : v.es.length ≤ 2048) : rdV s a.length 0 = (v, (a ++ vxB v).length, 0) := by
 have h1 : s.data.toList = a ++ (sgB v.id ++ (sgB v.val ++ (numB v.es.length ++ (v.es.flatMap edB ++ c)))) := by rw [h]; simp [vxB]
 have h2 : s.data.toList = (a ++ sgB v.id) ++ (sgB v.val ++ (numB v.es.length ++ (v.es.flatMap edB ++ c))) := by rw [h1]; simp
 have h3 : s.data.toList = (a ++ sgB v.id ++ sgB v.val) ++ (numB v.es.length ++ (v.es.flatMap edB ++ c)) := by rw [h1]; simp
 have h4 : s.data.toList = (a ++ sgB v.id ++ sgB v.val ++ numB v.es.length) ++ (v.es.flatMap edB ++ c) := by rw [h1]; simp
 have q1 := num_at h1 (fold_lt hok.id)
 have q2 := num_at h2 (fold_lt hok.val)
 have q3 := count_at (most := 2048) h3 hl (by decide)
 have q4 := rdEs_enc v.es _ c h4 hok.es
 unfold rdV
 simp only [q1]
 rw [show (a ++ numB (foldN v.id).toNat) = a ++ sgB v.id from rfl]
 simp only [q2]
 rw [show (a ++ sgB v.id ++ numB (foldN v.val).toNat) = a ++ sgB v.id ++ sgB v.val from rfl, show (2048 : Int) = ((2048 : Nat) : Int) from rfl]
 simp only [q3, q4, sg_back hok.id, sg_back hok.val]
 simp [vxB]
theorem rdVs_enc {s : ByteArray} : ∀ (G : List Vx) (a c : List UInt8), s.data.toList = a ++ (G.flatMap vxB ++ c) → (∀ v ∈ G, v.ok ∧ v.es.length ≤ 2048) → rdVs s G.length a.length 0 = (G, (a ++ G.flatMap vxB).length, 0) := by
 intro G
 induction G with
 | nil => intro a c _ _; simp [rdVs]
 | cons v G ih =>
  intro a c h hok
  have hv := hok v (by simp)
  have h1 : s.data.toList = a ++ (vxB v ++ (G.flatMap vxB ++ c)) := by rw [h]; simp
  have h2 : s.data.toList = (a ++ vxB v) ++ (G.flatMap vxB ++ c) := by rw [h1]; simp
  rw [List.length_cons, rdVs_go (rdV_enc h1 hv.1 hv.2), ih (a ++ vxB v) c h2 (fun x hx => hok x (by simp [hx]))]
  simp
theorem rdG_enc {s : ByteArray} {G : List Vx} {a c : List UInt8} (h : s.data.toList = a ++ (grB G ++ c)) (hok : ∀ v ∈ G, v.ok) (hc : chk G = 0) : rdG s a.length 0 = (G, (a ++ grB G).length, 0) := by
 have h1 : s.data.toList = a ++ (numB G.length ++ (G.flatMap vxB ++ c)) := by rw [h]; simp [grB]
 have h2 : s.data.toList = (a ++ numB G.length) ++ (G.flatMap vxB ++ c) := by rw [h1]; simp
 have hr := room_ok hc hok
 have q1 := count_at (most := 256) h1 (chk_ok hc).1 (by decide)
 have q2 := rdVs_enc G _ c h2 (fun v hv => ⟨hok v hv, hr.2 v hv⟩)
 have hg : rdGs s a.length 0 = (G, (a ++ grB G).length, 0) := by
  unfold rdGs
  rw [show (256 : Int) = ((256 : Nat) : Int) from rfl]
  simp only [q1, q2]
  simp [grB]
 exact rdG_ok hg hc
abbrev isBfs (s : ByteArray) : Bool := s.toList == [98, 102, 115]
abbrev isCc (s : ByteArray) : Bool := s.toList == [99, 99]
abbrev isDeg (s : ByteArray) : Bool := s.toList == [100, 101, 103, 114, 101, 101]
abbrev isPr (s : ByteArray) : Bool := s.toList == [112, 97, 103, 101, 114, 97, 110, 107]
abbrev isSp (s : ByteArray) : Bool := s.toList == [115, 115, 115, 112]
abbrev isKc (s : ByteArray) : Bool := s.toList == [107, 99, 111, 114, 101]
def ownS (s : ByteArray) : Bool := isBfs s || isCc s || isDeg s || isPr s || isSp s
def IsAt (w : World) (ao : Option Addr) (L : List Int) : Prop := 0 < L.length → ∃ b off, ao = some ⟨b, off, none⟩ ∧ ∀ j (h : j < L.length), w.cell? ⟨b, off + j, none⟩ = some (.int .i64 L[j])
theorem IsAt.new {w w' : World} {ao : Option Addr} {L : List Int} (h : IsAt w ao L) (hb : Below w.heap.size w w') : IsAt w' ao L := fun hl => by
 obtain ⟨b, off, e, hc⟩ := h hl
 exact ⟨b, off, e, fun j hj => (hb.cell (p := ⟨b, off + j, none⟩) (lt_cell (hc j hj))).trans (hc j hj)⟩
def noneN (L : List Int) : Int := if L.length = 0 then 0 else 71
def turnN (L : List Int) : Int := if L.length = 1 ∧ 0 ≤ L.getD 0 0 ∧ L.getD 0 0 ≤ 100 then 0 else 71
theorem IsAt.one {w : World} {ao : Option Addr} {L : List Int} (h : IsAt w ao L) (h1 : L.length = 1) : ∃ b off, ao = some ⟨b, off, none⟩ ∧ w.cell? ⟨b, off, none⟩ = some (.int .i64 (L.getD 0 0)) := by
 obtain ⟨b, off, e, hc⟩ := h (by omega)
 refine ⟨b, off, e, ?_⟩
 have := hc 0 (by omega)
 rw [Nat.add_zero] at this
 rw [this]
 match L, h1 with
 | [x], _ => rfl
theorem none_any {ao : Option Addr} (L : List Int) (n cap : Nat) (w : World) (hn : n = L.length) : Calls Tryz.prog 78 #[.slice ao n cap] w fun r w' => r = .returned (.int .i64 (noneN L)) ∧ w' = w := by
 unfold noneN
 rw [← hn]
 by_cases h : n = 0
 ·subst h
  clear hn
  go_enter Tryz.func78, Tryz.ntmps78
  go_wp2
  go_ret
  exact ⟨by simp, rfl⟩
 ·clear hn
  go_enter Tryz.func78, Tryz.ntmps78
  go_wp2
  all_goals first | (exfalso; omega) | (go_ret; exact ⟨by simp, rfl⟩)
theorem turns_any {ao : Option Addr} (L : List Int) (n cap : Nat) (w : World) (hn : n = L.length) (hL : IsAt w ao L) : Calls Tryz.prog 76 #[.slice ao n cap] w fun r w' => r = .returned (.int .i64 (turnN L)) ∧ w' = w := by
 by_cases h1 : n = 1
 ·obtain ⟨b, off, rfl, hc⟩ := hL.one (by omega)
  have HT : Hid (turnN L = if 0 ≤ L.getD 0 0 ∧ L.getD 0 0 ≤ 100 then 0 else 71) := by
   show _ = _
   unfold turnN
   have : L.length = 1 := by omega
   simp [this]
  generalize L.getD 0 0 = x at hc HT
  subst h1
  rw [HT.out]
  clear hn hL HT
  go_enter Tryz.func76, Tryz.ntmps76
  by_cases g0 : x < 0
  ·go_wp2
   all_goals first | (exfalso; omega) | (go_ret; exact ⟨by first | rfl | (rw [if_neg (by omega)]; rfl), rfl⟩)
  ·by_cases g1 : 100 < x
   ·go_wp2
    all_goals first | (exfalso; omega) | (go_ret; exact ⟨by first | rfl | (rw [if_neg (by omega)]; rfl), rfl⟩)
   ·go_wp2
    all_goals first | (exfalso; omega) | (go_ret; exact ⟨by first | rfl | (rw [if_pos (by omega)]; rfl), rfl⟩)
 ·have HT : Hid (turnN L = 71) := by
   show _ = _
   unfold turnN
   rw [if_neg (by omega)]
  rw [HT.out]
  have hb : ((n : Int) != 1) = true := by simp; omega
  clear hn hL HT
  go_enter Tryz.func76, Tryz.ntmps76
  go_wp2
  all_goals first | (exfalso; omega) | (go_ret; exact ⟨rfl, rfl⟩)
theorem kc_new {w w' : World} {P : Nat → Prop} {ao : Option Addr} {G : List Vx} (h : VxAt w P ao G) (hb : Below w.heap.size w w') : VxAt w' P ao G := h.kept (Fr.ofBelow hb (fun _ => False)) (fun _ _ hp => ⟨fun h => h, hp⟩)
theorem kc_lt {w : World} {P : Nat → Prop} {ao : Option Addr} {G : List Vx} (h : VxAt w P ao G) : VxAt w (fun k => k < w.heap.size) ao G := h.kept (Fr.refl _ (fun _ => False)) (fun _ hk _ => ⟨fun h => h, hk⟩)
set_option maxHeartbeats 1000000 in
theorem source_r3 {W0 : World} {A : Act} {bx b off n cap pc : Nat} {ao : Option Addr} {P : Nat → Prop} {G : List Vx} {x : Int} {fb : Bool} {K : Act → World → Prop} {Q' : Exit → Act → World → Prop} (hsz : A.tmps.size = 20) (hA2 : A.eval (.tmp 2) = .pointer (some ⟨bx, 0, none⟩)) (hA1 : A.eval (.tmp 1) = .slice (some ⟨b, off, none⟩) 1 pc) (hB : W0.cell? ⟨bx, 0, none⟩ = some (.slice ao n cap)) (hc : W0.cell? ⟨b, off, none⟩ = some (.int .i64 x)) (hn : n = G.length) (hG : VxAt W0 P ao G) (hl : G.length ≤ 256) (hr : Rise (ids G)) (hfb : foundB (ids G) x = fb)
  (HK : ∀ X W, Below W0.heap.size W0 W → X 6 = .bool fb → K (puts A X [11, 12, 13, 14, 15, 10, 16, 17, 5, 6]) W) :
  Code.wp Tryz.prog ((Tryz.f100.body.bind (regionJ 3)).getD .skip) (Exit.then K Q') A W0 := by
 obtain ⟨ds, hds⟩ : ∃ ds, [11, 12, 13, 14, 15, 10, 16, 17, 5, 6] = ds := ⟨_, rfl⟩
 have hin : ∀ {X : Nat → Value} {k : Nat}, k ∈ [11, 12, 13, 14, 15, 10, 16, 17, 5, 6] → (puts A X ds).eval (.tmp k) = X k := fun hk => by rw [← hds]; exact eval_in hk (by rw [hsz]; revert hk; simp only [List.mem_cons, List.not_mem_nil, or_false]; omega)
 have hout : ∀ {X : Nat → Value} {k : Nat}, k ∉ [11, 12, 13, 14, 15, 10, 16, 17, 5, 6] → (puts A X ds).eval (.tmp k) = A.eval (.tmp k) := fun hk => by rw [← hds]; exact eval_out hk
 have g0 : ds.getD 0 0 = 11 := by rw [← hds]; rfl
 have g1 : ds.getD 1 0 = 12 := by rw [← hds]; rfl
 have g2 : ds.getD 2 0 = 13 := by rw [← hds]; rfl
 have g3 : ds.getD 3 0 = 14 := by rw [← hds]; rfl
 have g4 : ds.getD 4 0 = 15 := by rw [← hds]; rfl
 have g5 : ds.getD 5 0 = 10 := by rw [← hds]; rfl
 have g6 : ds.getD 6 0 = 16 := by rw [← hds]; rfl
 have g7 : ds.getD 7 0 = 17 := by rw [← hds]; rfl
 have g8 : ds.getD 8 0 = 5 := by rw [← hds]; rfl
 have g9 : ds.getD 9 0 = 6 := by rw [← hds]; rfl
 obtain ⟨V, hV, e0, e1, e2, e3, e4, e5, e6, e7, e8, e9⟩ : ∃ V : Nat → Value → World → Prop, (∀ i v W W', V i v W → Below W.heap.size W W' → V i v W') ∧ (∀ v W, V 0 v W = (v = .agg #[.slice ao n cap])) ∧ (∀ v W, V 1 v W = (v = .slice (some ⟨b, off, none⟩) 1 pc)) ∧ (∀ v W, V 2 v W = (v = .pointer (some ⟨b, off, none⟩))) ∧ (∀ v W, V 3 v W = (v = .int .i64 x)) ∧ (∀ v W, V 4 v W = (v = .tuple #[.int .i64 (findN (ids G) x), .bool fb])) ∧ (∀ v W, V 5 v W = (v = .tuple #[.int .i64 (findN (ids G) x), .bool fb])) ∧ (∀ v W, V 6 v W = (v = .int .i64 (findN (ids G) x))) ∧ (∀ v W, V 7 v W = (v = .bool fb)) ∧ (∀ v W, V 8 v W = (v = .int .i64 (findN (ids G) x))) ∧ (∀ v W, V 9 v W = (v = .bool fb)) := by
  refine ⟨fun i v W => match i with
   | 0 => v = .agg #[.slice ao n cap]
   | 1 => v = .slice (some ⟨b, off, none⟩) 1 pc
   | 2 => v = .pointer (some ⟨b, off, none⟩)
   | 3 => v = .int .i64 x
   | 4 => v = .tuple #[.int .i64 (findN (ids G) x), .bool fb]
   | 5 => v = .tuple #[.int .i64 (findN (ids G) x), .bool fb]
   | 6 => v = .int .i64 (findN (ids G) x)
   | 7 => v = .bool fb
   | 8 => v = .int .i64 (findN (ids G) x)
   | 9 => v = .bool fb
   | _ => True, ?_, fun _ _ => rfl, fun _ _ => rfl, fun _ _ => rfl, fun _ _ => rfl, fun _ _ => rfl, fun _ _ => rfl, fun _ _ => rfl, fun _ _ => rfl, fun _ _ => rfl, fun _ _ => rfl⟩
  intro i v W W' h hb
  match i, h with
  | 0, h => exact h
  | 1, h => exact h
  | 2, h => exact h
  | 3, h => exact h
  | 4, h => exact h
  | 5, h => exact h
  | 6, h => exact h
  | 7, h => exact h
  | 8, h => exact h
  | 9, h => exact h
  | _ + 10, _ => trivial
 conv => arg 2; whnf
 refine wp_region_V ds V (by kernel_rfl) (by kernel_rfl) (by rw [← hds]; kernel_rfl) hV ?_ ?_
 ·refine ⟨?_, ?_, ?_, ?_, ?_, ?_, ?_, ?_, ?_, ?_, trivial⟩
  all_goals intro X W hb hd
  ·have h0 := hout (X := X) (k := 2) (by decide)
   rw [hA2] at h0
   have c0 := (hb.cell (p := ⟨bx, 0, none⟩) (lt_cell hB)).trans hB
   refine v_value (V := V 0) (v := .agg #[.slice ao n cap]) ?_ (by rw [e0])
   generalize (puts A X ds).eval = ρ at h0 ⊢
   go_simp
  ·have h0 := hout (X := X) (k := 1) (by decide)
   rw [hA1] at h0
   refine v_value (V := V 1) (v := .slice (some ⟨b, off, none⟩) 1 pc) ?_ (by rw [e1])
   generalize (puts A X ds).eval = ρ at h0 ⊢
   go_simp
  ·have d0 := hd 1 (by kernel_rfl)
   rw [e1, g1] at d0
   have h0 := (hin (X := X) (k := 12) (by decide)).trans d0
   have h1 : (puts A X ds).eval (.const (.int .i64 0)) = .int .i64 0 := rfl
   refine v_value (V := V 2) (v := .pointer (some ⟨b, off, none⟩)) ?_ (by rw [e2])
   generalize (puts A X ds).eval = ρ at h0 h1 ⊢
   go_simp
  ·have d0 := hd 2 (by kernel_rfl)
   rw [e2, g2] at d0
   have h0 := (hin (X := X) (k := 13) (by decide)).trans d0
   have c0 := (hb.cell (p := ⟨b, off, none⟩) (lt_cell hc)).trans hc
   refine v_value (V := V 3) (v := .int .i64 x) ?_ (by rw [e3])
   generalize (puts A X ds).eval = ρ at h0 ⊢
   go_simp
  ·have d0 := hd 0 (by kernel_rfl)
   rw [e0, g0] at d0
   have h0 := (hin (X := X) (k := 11) (by decide)).trans d0
   have d1 := hd 3 (by kernel_rfl)
   rw [e3, g3] at d1
   have h1 := (hin (X := X) (k := 14) (by decide)).trans d1
   have hf : (puts A X ds).eval (.func 99) = .func (.func 99) #[] #[] := rfl
   refine v_call (V := V 4) (f := 99) (vs := #[.agg #[.slice ao n cap], .int .i64 x]) ?_ ?_
   ·generalize (puts A X ds).eval = ρ at h0 h1 hf ⊢
    go_simp
   ·subst hn
    refine (find_any cap x (kc_lt (kc_new hG hb)) hl hr).mono ?_
    rintro r W' ⟨rfl, hb'⟩
    exact ⟨_, rfl, by rw [e4, hfb], hb'⟩
  ·have d0 := hd 4 (by kernel_rfl)
   rw [e4, g4] at d0
   have h0 := (hin (X := X) (k := 15) (by decide)).trans d0
   refine v_value (V := V 5) (v := .tuple #[.int .i64 (findN (ids G) x), .bool fb]) ?_ (by rw [e5])
   generalize (puts A X ds).eval = ρ at h0 ⊢
   go_simp
  ·have d0 := hd 5 (by kernel_rfl)
   rw [e5, g5] at d0
   have h0 := (hin (X := X) (k := 10) (by decide)).trans d0
   refine v_value (V := V 6) (v := .int .i64 (findN (ids G) x)) ?_ (by rw [e6])
   generalize (puts A X ds).eval = ρ at h0 ⊢
   go_simp
  ·have d0 := hd 5 (by kernel_rfl)
   rw [e5, g5] at d0
   have h0 := (hin (X := X) (k := 10) (by decide)).trans d0
   refine v_value (V := V 7) (v := .bool fb) ?_ (by rw [e7])
   generalize (puts A X ds).eval = ρ at h0 ⊢
   go_simp
  ·have d0 := hd 6 (by kernel_rfl)
   rw [e6, g6] at d0
   have h0 := (hin (X := X) (k := 16) (by decide)).trans d0
   refine v_value (V := V 8) (v := .int .i64 (findN (ids G) x)) ?_ (by rw [e8])
   generalize (puts A X ds).eval = ρ at h0 ⊢
   go_simp
  ·have d0 := hd 7 (by kernel_rfl)
   rw [e7, g7] at d0
   have h0 := (hin (X := X) (k := 17) (by decide)).trans d0
   refine v_value (V := V 9) (v := .bool fb) ?_ (by rw [e9])
   generalize (puts A X ds).eval = ρ at h0 ⊢
   go_simp
 ·intro X W hb hall
  have r0 := hall 0 (by decide)
  rw [e0, g0] at r0
  have r1 := hall 1 (by decide)
  rw [e1, g1] at r1
  have r2 := hall 2 (by decide)
  rw [e2, g2] at r2
  have r3 := hall 3 (by decide)
  rw [e3, g3] at r3
  have r4 := hall 4 (by decide)
  rw [e4, g4] at r4
  have r5 := hall 5 (by decide)
  rw [e5, g5] at r5
  have r6 := hall 6 (by decide)
  rw [e6, g6] at r6
  have r7 := hall 7 (by decide)
  rw [e7, g7] at r7
  have r8 := hall 8 (by decide)
  rw [e8, g8] at r8
  have r9 := hall 9 (by decide)
  rw [e9, g9] at r9
  have := HK X W hb (by first | assumption | exact ⟨by assumption, by assumption⟩ | exact ⟨by assumption, by assumption, by assumption⟩ | simp_all)
  rw [hds] at this
  exact this
def srcN (G : List Vx) (L : List Int) : Int := if L.length = 1 ∧ foundB (ids G) (L.getD 0 0) = true then 0 else 71
set_option maxHeartbeats 1000000 in
theorem source_any {w : World} {P : Nat → Prop} {ao po : Option Addr} (G : List Vx) (L : List Int) (n cap pn pc : Nat) (hn : n = G.length) (hp : pn = L.length) (hG : VxAt w P ao G) (hL : IsAt w po L) (hl : G.length ≤ 256) (hr : Rise (ids G)) :
  Calls Tryz.prog 100 #[.agg #[.slice ao n cap], .slice po pn pc] w fun r w' => r = .returned (.int .i64 (srcN G L)) ∧ Below w.heap.size w w' := by
 obtain ⟨W0, hW0⟩ : ∃ W0, w.alloc (.cells #[.slice ao n cap] 24) = W0 := ⟨_, rfl⟩
 have hB0 : Below w.heap.size w W0 := by rw [← hW0]; exact (Below.refl _ _).alloc (Nat.le_refl _) _
 have hcg : W0.cell? ⟨w.heap.size, 0, none⟩ = some (.slice ao n cap) := by
  have hh : W0.heap[w.heap.size]? = some (.cells #[.slice ao n cap] 24 (0, 0)) := by rw [← hW0]; exact heap_alloc_new _ _
  simp [World.cell?, hh]
 by_cases h1 : pn = 1
 ·obtain ⟨b, off, rfl, hc⟩ := hL.one (by omega)
  have HT : Hid (srcN G L = if foundB (ids G) (L.getD 0 0) = true then 0 else 71) := by
   show _ = _
   unfold srcN
   have : L.length = 1 := by omega
   simp [this]
  have HC : Hid (W0.cell? ⟨b, off, none⟩ = some (.int .i64 (L.getD 0 0))) := (hB0.cell (p := ⟨b, off, none⟩) (lt_cell hc)).trans hc
  have HG : Hid _ := kc_new hG hB0
  have HCg : Hid _ := hcg
  have HB0 : Hid _ := hB0
  have HN : Hid _ := hn
  generalize L.getD 0 0 = x at HC HT
  subst h1
  rw [HT.out]
  obtain ⟨fb, hfb⟩ : ∃ fb, foundB (ids G) x = fb := ⟨_, rfl⟩
  have HF : Hid _ := hfb
  rw [hfb]
  clear hn hp hL hG hc HT hcg hB0 hfb
  go_enter Tryz.func100, Tryz.ntmps100
  go_upto_region 3 with fail
  refine source_r3 (bx := w.heap.size) (b := b) (off := off) (n := n) (cap := cap) (pc := pc) (ao := ao) (P := P) (G := G) (x := x) (fb := fb) rfl rfl rfl HCg.out HC.out HN.out HG.out hl hr HF.out ?_
  intro X W hb h6
  simp only [puts]
  rw [h6]
  generalize X 5 = x5
  generalize X 10 = x10
  generalize X 11 = x11
  generalize X 12 = x12
  generalize X 13 = x13
  generalize X 14 = x14
  generalize X 15 = x15
  generalize X 16 = x16
  generalize X 17 = x17
  have HB1 : Hid _ := HB0.out.trans (hb.mono HB0.out.size)
  clear hb h6 X
  cases fb
  ·go_wp2
   go_ret
   exact ⟨by simp, HB1.out⟩
  ·go_wp2
   go_ret
   exact ⟨by simp, HB1.out⟩
 ·have HT : Hid (srcN G L = 71) := by
   show _ = _
   unfold srcN
   rw [if_neg (by omega)]
  rw [HT.out]
  have hb : ((pn : Int) != 1) = true := by simp; omega
  have HB0 : Hid _ := hB0
  clear hn hp hL hG HT hcg hB0
  go_enter Tryz.func100, Tryz.ntmps100
  go_wp2
  all_goals first | (exfalso; omega) | (go_ret; exact ⟨rfl, HB0.out⟩)
def Soft (w : World) (k : Nat) : Prop := ∃ cs t, w.heap[k]? = some (.cells cs t (0, 0))
theorem Soft.keep {w w' : World} {k : Nat} {S : Nat → Prop} (h : Soft w k) (f : Fr w w' S) (hn : ¬ S k) : Soft w' k := by
 obtain ⟨cs, t, h⟩ := h
 exact ⟨cs, t, (f.block k (lt_of_block h) hn).trans h⟩
theorem Soft.new {w w' : World} {k : Nat} (h : Soft w k) (hb : Below w.heap.size w w') : Soft w' k := by
 obtain ⟨cs, t, h⟩ := h
 exact ⟨cs, t, (hb.block k (lt_of_block h)).trans h⟩
theorem soft_own {w : World} {base : Nat} {e : TypeId} {size : Nat} {v : Value} {n k : Nat} {xs : List Value} (h : w.ownsRow base e size v n xs) (hk : v.ownBlock = some k) : Soft w k := by
 rcases h.2 with ⟨h1, _⟩ | ⟨g, cap, cur, h1, _, hg, _⟩
 ·rw [h1] at hk; cases hk
 ·rw [h1] at hk
  cases hk
  exact ⟨cur, e, hg⟩
theorem ecs_len (L : List Ed) : (ecs L).length = L.length * 2 := by
 induction L with
 | nil => rfl
 | cons y L ih => simp only [ecs, List.flatMap_cons, List.length_append, List.length_cons] at *; simp at *; omega
theorem ecs_one (L : List Ed) : ∀ u ∈ ecs L, u.oneCell' = true := by
 intro u hu
 unfold ecs at hu
 obtain ⟨y, _, hy⟩ := List.mem_flatMap.1 hu
 simp at hy
 rcases hy with rfl | rfl <;> rfl
theorem ecs_cell {w : World} {P : Nat → Prop} {ad : Addr} {L : List Ed} (h : EdAt w P (some ad) L) : ∀ j u, (ecs L)[j]? = some u → w.cell? (ad.add j) = some u := by
 intro j u hu
 have hj : j < (ecs L).length := (List.getElem?_eq_some_iff.1 hu).1
 rw [ecs_len] at hj
 obtain ⟨b, off, e, _, hc⟩ := h (by omega)
 cases e
 have hadd : (⟨b, off, none⟩ : Addr).add j = ⟨b, off + j, none⟩ := by unfold Addr.add; split <;> simp_all
 rw [hadd]
 have hi : j / 2 < L.length := by omega
 have h1 := ecs_at L (j / 2) hi
 have h2 := hc (j / 2) hi
 rcases Nat.mod_two_eq_zero_or_one j with h0 | h0
 ·rw [show j / 2 * 2 = j by omega] at h1 h2
  rw [h1.1] at hu
  cases hu
  exact h2.1
 ·rw [show j / 2 * 2 + 1 = j by omega] at h1
  rw [show off + j / 2 * 2 + 1 = off + j by omega] at h2
  rw [h1.2] at hu
  cases hu
  exact h2.2
theorem nil_eq (w : World) (n c : Nat) : (binOp .eql 63 (.slice none n c) (.slice none 0 0)).run Tryz.prog w = .ok (.bool true) w := by
 have h : (Op.equalIn 10000 63 (.slice none n c) (.slice none 0 0)).run Tryz.prog w = .ok true w := by
  unfold Op.equalIn
  simp [run_underlying Tryz.underlying63]
 simp only [binOp]
 simp [Op.equal, Op.maxDepth, h]
theorem nil_ne (w : World) (ad : Addr) (n c : Nat) : (binOp .eql 63 (.slice (some ad) n c) (.slice none 0 0)).run Tryz.prog w = .ok (.bool false) w := by
 have h : (Op.equalIn 10000 63 (.slice (some ad) n c) (.slice none 0 0)).run Tryz.prog w = .ok false w := by
  unfold Op.equalIn
  simp [run_underlying Tryz.underlying63]
 simp only [binOp]
 simp [Op.equal, Op.maxDepth, h]
theorem clones_any {w : World} {P : Nat → Prop} {ao : Option Addr} (L : List Ed) (cap : Nat) (h : EdAt w P ao L) (hl : L.length ≤ 8796093022208) :
  Calls Tryz.prog 121 #[.slice ao L.length cap] w fun r w' => ∃ bo c, r = .returned (.slice bo L.length c) ∧ EdAt w' (fun k => w.heap.size ≤ k ∧ Soft w' k) bo L ∧ Below w.heap.size w w' := by
 obtain ⟨i0, hi, hz0, hz1, hz2⟩ := info_parts infoEdge
 cases ao with
 | none =>
  have hL : L = [] := List.eq_nil_of_length_eq_zero (Nat.eq_zero_of_not_pos (fun hp => by obtain ⟨b, off, e, _⟩ := h hp; cases e))
  subst hL
  have hq := nil_eq
  go_enter Tryz.func121, Tryz.ntmps121
  go_wp2
  go_ret
  exact ⟨none, 0, rfl, fun hp => absurd hp (by simp), Below.refl _ _⟩
 | some ad =>
  have HN : Hid (∀ j u, (ecs L)[j]? = some u → (w.alloc (.cells #[] 62)).cell? (ad.add j) = some u) := ecs_cell (h.new (one_new _ _))
  have HO : Hid _ := own_empty (w := w) (base := w.heap.size) (t := 62) (size := 2) (Nat.le_refl _)
  clear h
  have hq := nil_ne
  go_enter Tryz.func121, Tryz.ntmps121
  go_wp2_with (at_builtin; refine wpList_append_own_at _ rfl _ _ 63 rfl w.heap.size 62 i0 (.agg #[.int .i64 0, .int .i64 0]) 2 16 Tryz.underlying63 hi hz0 hz1 hz2 rfl (by decide) _ _ _ rfl HO.out ad L.length cap (ecs L) rfl (ecs_len L) HN.out (ecs_one L) (by unfold maxLen; omega) (by omega) (by simp) ?_)
  intro v' w1 hown hgrow _ _
  obtain ⟨bo, m, c, rfl⟩ := own_any hown
  obtain ⟨hm, hE⟩ := own_eds hown
  subst hm
  have hb : Below w.heap.size w w1 := (one_new w _).trans ((Fr.grown (S := fun k => k = w.heap.size) hgrow (fun k hk => by cases hk; rfl)).below (by simp) (fun k hk => by omega))
  go_wp2
  go_ret
  exact ⟨bo, c, rfl, hE.mono (fun k _ hk => ⟨hk.1, soft_own hown hk.2⟩), hb⟩
theorem cl_set3 {w : World} {b : Nat} {t : TypeId} {u0 u1 u2 : Value} (h : w.heap[b]? = some (.cells #[u0, u1, u2] t (0, 0))) (x y z : Value) : (((w.setCell ⟨b, 0, none⟩ x).setCell ⟨b, 1, none⟩ y).setCell ⟨b, 2, none⟩ z).heap[b]? = some (.cells #[x, y, z] t (0, 0)) := by
 have hs : ∀ {w : World} {i : Nat} {cs : Array Value} (v : Value), w.heap[b]? = some (.cells cs t (0, 0)) → (w.setCell ⟨b, i, none⟩ v).heap[b]? = some (.cells (cs.setIfInBounds i v) t (0, 0)) := by
  intro w i cs v h
  have hlt := lt_of_block h
  have h' : w.heap[b] = .cells cs t (0, 0) := by simpa [Array.getElem?_eq_getElem hlt] using h
  show (w.heap.modify b _)[b]? = _
  rw [Array.getElem?_eq_getElem (by simpa using hlt), Array.getElem_modify_self, h']
  rfl
 exact hs z (hs y (hs x h))
theorem sizeVx : (Tryz.prog.info? 65).map (·.size) = some 3 := by kernel_rfl
theorem clonev_any {w : World} {P : Nat → Prop} {eo : Option Addr} (x : Vx) (ec : Nat) (h : EdAt w P eo x.es) (hl : x.es.length ≤ 8796093022208) :
  Calls Tryz.prog 102 #[.agg #[.int .i64 x.id, .int .i64 x.val, .slice eo x.es.length ec]] w fun r w' => ∃ bo c, r = .returned (.agg #[.int .i64 x.id, .int .i64 x.val, .slice bo x.es.length c]) ∧ EdAt w' (fun k => w.heap.size ≤ k ∧ Soft w' k) bo x.es ∧ Below w.heap.size w w' := by
 have HE : Hid (∀ W, Below w.heap.size w W → EdAt W P eo x.es) := fun W hb => h.new hb
 have HB : Hid (Below w.heap.size w ((w.alloc (.cells #[.int .i64 x.id, .int .i64 x.val, .slice eo x.es.length ec] 65)).alloc (.cells #[.int .i64 0, .int .i64 0, .slice none 0 0] 65))) := b2 _ _ _
 have X1 : Hid (((w.alloc (.cells #[.int .i64 x.id, .int .i64 x.val, .slice eo x.es.length ec] 65)).alloc (.cells #[.int .i64 0, .int .i64 0, .slice none 0 0] 65)).heap[w.heap.size]? = some (.cells #[.int .i64 x.id, .int .i64 x.val, .slice eo x.es.length ec] 65 (0, 0))) := (Below.heap_alloc _ _ _ (by simp)).trans (heap_alloc_new _ _)
 have X2 : Hid (((w.alloc (.cells #[.int .i64 x.id, .int .i64 x.val, .slice eo x.es.length ec] 65)).alloc (.cells #[.int .i64 0, .int .i64 0, .slice none 0 0] 65)).heap[w.heap.size + 1]? = some (.cells #[.int .i64 0, .int .i64 0, .slice none 0 0] 65 (0, 0))) := by
  have := heap_alloc_new (w.alloc (.cells #[.int .i64 x.id, .int .i64 x.val, .slice eo x.es.length ec] 65)) (.cells #[.int .i64 0, .int .i64 0, .slice none 0 0] 65)
  rw [World.size_alloc] at this
  exact this
 clear h
 go_enter Tryz.func102, Tryz.ntmps102
 go_wp2_with (go_at_call 121; refine (clones_any x.es ec (HE.out _ HB.out) hl).mono ?_; rintro r w1 ⟨bo, c, rfl, hE1, hb1⟩; have y1 := (hb1.block _ (lt_of_block X1.out)).trans X1.out; have y2 := (hb1.block _ (lt_of_block X2.out)).trans X2.out; obtain ⟨p0, p1, p2⟩ := box3 y1; have p3 := froz (o := 2) y1; obtain ⟨q0, q1, q2⟩ := box3 y2; have q3 := froz (o := 0) y2; have q4 := froz (o := 1) y2; have q5 := froz (o := 2) y2; have Y1 : Hid _ := y1; have Y2 : Hid _ := y2; clear y1 y2)
 have hB1 : Below w.heap.size w w1 := HB.out.trans (hb1.mono HB.out.size)
 generalize hW : World.setCell _ _ _ = W
 have f1 : Fr w1 W (fun k => k = w.heap.size ∨ k = w.heap.size + 1) := by
  rw [← hW]
  have hs1 : ∀ (w' : World) (o : Nat) (u : Value), Fr w' (w'.setCell ⟨w.heap.size, o, none⟩ u) (fun k => k = w.heap.size ∨ k = w.heap.size + 1) := fun w' o u => Fr.setCell (S := fun k => k = w.heap.size ∨ k = w.heap.size + 1) w' ⟨w.heap.size, o, none⟩ u (Or.inl rfl)
  have hs2 : ∀ (w' : World) (o : Nat) (u : Value), Fr w' (w'.setCell ⟨w.heap.size + 1, o, none⟩ u) (fun k => k = w.heap.size ∨ k = w.heap.size + 1) := fun w' o u => Fr.setCell (S := fun k => k = w.heap.size ∨ k = w.heap.size + 1) w' ⟨w.heap.size + 1, o, none⟩ u (Or.inr rfl)
  exact (((hs1 _ _ _).trans (hs2 _ _ _) (fun _ _ h => h)).trans (hs2 _ _ _) (fun _ _ h => h)).trans (hs2 _ _ _) (fun _ _ h => h)
 have b1 : W.heap[w.heap.size + 1]? = some (.cells #[.int .i64 x.id, .int .i64 x.val, .slice bo x.es.length c] 65 (0, 0)) := by
  rw [← hW]
  have h0 : (w1.setCell ⟨w.heap.size, 2, none⟩ (.slice bo x.es.length c)).heap[w.heap.size + 1]? = some (.cells #[.int .i64 0, .int .i64 0, .slice none 0 0] 65 (0, 0)) := (Below.heap_setCell w1 ⟨w.heap.size, 2, none⟩ _ (w.heap.size + 1) (by show w.heap.size + 1 ≠ w.heap.size; omega)).trans Y2.out
  exact cl_set3 h0 _ _ _
 refine bodyPost_ret (v := .agg #[.int .i64 x.id, .int .i64 x.val, .slice bo x.es.length c]) (results_cell_row Tryz.results102 _ _ (w.heap.size + 1) 65 _ (0, 0) _ rfl b1 Tryz.underlying65 rfl sizeVx) rfl ?_
 have hz1 := lt_of_block X2.out
 exact ⟨bo, c, rfl, hE1.kept f1 (fun k hk hp => ⟨by have := hp.1; omega, by have := HB.out.size; have := hp.1; omega, hp.2.keep f1 (by have := hp.1; omega)⟩), hB1.trans (f1.below hB1.size (fun k hk => by omega))⟩
theorem cl_one {W : World} {b : Nat} {t : TypeId} {u0 : Value} (h : W.heap[b]? = some (.cells #[u0] t (0, 0))) : W.cell? ⟨b, 0, none⟩ = some u0 ∧ W.frozen? ⟨b, 0, none⟩ = false := by
 refine ⟨?_, froz h⟩
 simp [World.cell?, h]
theorem cl_set1 {w : World} {b : Nat} {t : TypeId} {u0 : Value} (h : w.heap[b]? = some (.cells #[u0] t (0, 0))) (x : Value) : (w.setCell ⟨b, 0, none⟩ x).heap[b]? = some (.cells #[x] t (0, 0)) := by
 have hlt := lt_of_block h
 have h' : w.heap[b] = .cells #[u0] t (0, 0) := by simpa [Array.getElem?_eq_getElem hlt] using h
 show (w.heap.modify b _)[b]? = _
 rw [Array.getElem?_eq_getElem (by simpa using hlt), Array.getElem_modify_self, h']
 rfl
theorem sizeGr : (Tryz.prog.info? 24).map (·.size) = some 1 := by kernel_rfl
set_option maxHeartbeats 1000000 in
theorem clone_any {w : World} {P : Nat → Prop} {ao : Option Addr} (G : List Vx) (cap : Nat) (h : VxAt w P ao G) (hok : ∀ v ∈ G, v.ok) (hl : G.length * 40 ≤ 140737488355328) :
  Calls Tryz.prog 80 #[.agg #[.slice ao G.length cap]] w fun r w' => ∃ bo c, r = .returned (.agg #[.slice bo G.length c]) ∧ VxAt w' (fun k => w.heap.size ≤ k) bo G ∧ Below w.heap.size w w' := by
 obtain ⟨i0, hi, hz0, hz1, hz2⟩ := info_parts infoVx
 have HG : Hid (VxAt w P ao G) := h
 have HOk : Hid (∀ v ∈ G, v.ok) := hok
 clear h hok
 go_enter Tryz.func80, Tryz.ntmps80
 go_wp2
 go_loopw [3, 9] (fun u i wr => ∃ (j : Nat) (fo : Option Addr) (m c : Nat), j ≤ G.length ∧ u = .slice fo m c ∧ i = .int .i64 j ∧ VRow wr (w.heap.size + 1 + 1) 65 (.slice fo m c) (G.take j) ∧ wr.heap[w.heap.size + 1]? = some (.cells #[.slice none 0 0] 24 (0, 0)) ∧ Below w.heap.size w wr) (fun _ i _ => G.length - (intOf i).toNat)
 case atStart =>
  refine ⟨0, none, 0, 0, Nat.zero_le _, rfl, rfl, VRow.nil _ _ _, ?_, b2 _ _ _⟩
  have := heap_alloc_new (w.alloc (.cells #[.slice ao G.length cap] 24)) (.cells #[.slice none 0 0] 24)
  rw [World.size_alloc] at this
  exact this
 case round =>
  obtain ⟨j, fo, m, c, hj, rfl, rfl, hR, hq, hb⟩ := hrel
  by_cases hlt : j < G.length
  ·obtain ⟨b, off, rfl, hP, hc⟩ := HG.out (by omega)
   obtain ⟨eo, ec, e0, e1, e2, e3⟩ := hc j hlt
   have hbb := lt_cell e0
   have d0 := (hb.cell (p := ⟨b, off + j * 3, none⟩) hbb).trans e0
   have d1 := (hb.cell (p := ⟨b, off + j * 3 + 1, none⟩) hbb).trans e1
   have d2 := (hb.cell (p := ⟨b, off + j * 3 + 2, none⟩) hbb).trans e2
   have HE : Hid (EdAt w P eo G[j].es) := e3
   have hlen : G[j].es.length ≤ 8796093022208 := (HOk.out _ (List.getElem_mem hlt)).len
   have HS : Hid (G.take (j + 1) = G.take j ++ [G[j]]) := List.take_succ_eq_append_getElem hlt
   have HLg : Hid ((G.take j).length = j) := by show _ = _; rw [List.length_take]; omega
   generalize G[j] = y at d0 d1 d2 HE hlen HS
   have HR : Hid _ := hR
   have HQ : Hid _ := hq
   have HB : Hid _ := hb
   have lq := lt_of_block hq
   clear e0 e1 e2 e3 hc hR hq hb
   go_wp2_with (first
    | (go_at_call 102; refine (clonev_any y ec (EdAt.new HE.out (HB.out.alloc HB.out.size _)) hlen).mono ?_; rintro r w1 ⟨bo, bc', rfl, hE1, hb1⟩; have hR1 := VRow.new (VRow.new HR.out (one_new wr _)) hb1; have hE4 : EdAt (w1.alloc (.cells #[.int .i64 y.id, .int .i64 y.val, .slice bo y.es.length bc'] 65)) (fun k => w.heap.size + 1 + 1 ≤ k ∧ (Value.slice fo m c).ownBlock ≠ some k) bo y.es := (hE1.new (one_new _ _)).mono (fun k _ hk => ⟨by have := hk.1; rw [World.size_alloc] at this; omega, fun e => by have := (VRow.lt HR.out k e).2; have := hk.1; rw [World.size_alloc] at this; omega⟩); obtain ⟨M, ho, hgo⟩ := (hR1.new (one_new w1 (.cells #[.int .i64 y.id, .int .i64 y.val, .slice bo y.es.length bc'] 65))).app (ec := bc') hE4; have HGo : Hid _ := hgo; have lw1 := hb1.size; have hq1 := (hb1.block _ (by rw [World.size_alloc]; omega)).trans ((Below.heap_alloc wr _ _ lq).trans HQ.out); have HQ1 : Hid _ := hq1; have HB1 : Hid _ := (HB.out.alloc HB.out.size _).trans (hb1.mono (by rw [World.size_alloc]; have := HB.out.size; omega)); clear hgo hE4 hq1)
    | (at_builtin; refine wpList_append_own_at _ rfl _ _ 22 rfl (w.heap.size + 1 + 1) 65 i0 (.agg #[.int .i64 0, .int .i64 0, .slice none 0 0]) 3 40 Tryz.underlying22 hi hz0 hz1 hz2 rfl (by decide) _ _ _ rfl ho ⟨w1.heap.size, 0, none⟩ 1 1 [.int .i64 y.id, .int .i64 y.val, .slice bo y.es.length bc'] rfl rfl (three_new (heap_alloc_new _ _)) (by intro u hu; simp at hu; rcases hu with rfl | rfl | rfl <;> rfl) (by rw [HLg.out]; unfold maxLen; omega) (by rw [HLg.out]; omega) (by rw [World.size_alloc] at lw1; simp; omega) ?_))
   intro v' w4 hown hgrow _ hat
   have hR4 := HGo.out w4 v' (by rw [HLg.out]; exact hown) hgrow (by simpa using hat)
   have f4 : Fr (w1.alloc (.cells #[.int .i64 y.id, .int .i64 y.val, .slice bo y.es.length bc'] 65)) w4 (fun k => Value.ownBlock (.slice fo m c) = some k) := Fr.grown hgrow (fun k hk => hk)
   have hB4 : Below w.heap.size w w4 := (HB1.out.alloc HB1.out.size _).trans (f4.below (HB1.out.alloc HB1.out.size _).size (fun k hk => by have := (VRow.lt HR.out k hk).1; omega))
   have hq4 := (f4.block _ (by rw [World.size_alloc]; have := lt_of_block HQ1.out; omega) (fun hk => by have := (VRow.lt HR.out _ hk).1; omega)).trans ((Below.heap_alloc w1 _ _ (lt_of_block HQ1.out)).trans HQ1.out)
   obtain ⟨ao', m', c', rfl⟩ := own_any hown
   have HR4 : Hid _ := hR4
   have HB4 : Hid _ := hB4
   have HQ4 : Hid _ := hq4
   clear hR4 hB4 hq4 hown hgrow hat f4 ho hR1 hE1 hb1
   go_wp2
   go_roundw
   case rel => exact ⟨j + 1, _, _, _, by omega, rfl, by go_num, by rw [HS.out]; exact HR4.out, HQ4.out, HB4.out⟩
   case measure => simp [intOf]; omega
  ·obtain rfl : j = G.length := by omega
   rw [List.take_length] at hR
   obtain ⟨hm, hVx⟩ := hR.at_
   subst hm
   obtain ⟨p0, p1⟩ := cl_one hq
   go_wp2
   refine bodyPost_ret (v := .agg #[.slice fo G.length c]) (results_cell_row Tryz.results80 _ _ (w.heap.size + 1) 24 _ (0, 0) _ rfl (cl_set1 hq _) Tryz.underlying24 rfl sizeGr) rfl ?_
   exact ⟨fo, c, rfl, hVx.kept (Fr.setCell (S := fun k => k = w.heap.size + 1) wr ⟨w.heap.size + 1, 0, none⟩ _ rfl) (fun k hk hp => ⟨by omega, by omega⟩), hb.trans ((Fr.setCell (S := fun k => k = w.heap.size + 1) wr ⟨w.heap.size + 1, 0, none⟩ _ rfl).below hb.size (fun k hk => by omega))⟩
end Go.Proofs.YtmgjlamglhpnaaaGreat
