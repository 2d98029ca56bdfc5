import Derived.Test.YtjemnkijoiehmaaGreatDoorStMoM
import Derived.Test.YtjemnkijoiehmaaGreatDoorStFiM
import Derived.Laws.Tables
import Derived.Test.YtjemnkijoiehmaaGreatDoorStMapM
import Derived.Test.YtjemnkijoiehmaaGreatDoorDkFilesM
import Derived.Shelf.SlIter.Nil
import Derived.Shelf.SlIter.Sorted
import Derived.Shelf.SortM.Plain
import Derived.Shelf.SortM.SortNone
import Derived.Shelf.SlGeneric
import Derived.Test.YtjemnkijoiehmaaGreatDoorProg
import Derived.Test.YtjemnkijoiehmaaGreatDoorDkAwM
import Derived.Shelf.AbstractIn
section
/- StorePlays: the law's own model: use. -/
namespace Go.Proofs.YtjemnkijoiehmaaGreatDoor
open Go.RowKit Go.Maps
attribute [local go_sem] Oper.semAt_some
theorem size_model : (Tryz.prog.info? 33).map (·.size) = some 2 := by kernel_rfl
/-- How many the model lets go. -/
def mgoN (f : Int → Option Bs) (bud : Int) : List Int → Nat
  | [] => 0
  | m :: r => if bud < (totL f (m :: r) : Int) ∧ 1 < (m :: r).length then mgoN f bud r + 1 else 0
theorem mgoN_drop (f : Int → Option Bs) (bud : Int) (P : List Int) (k : Nat) : mgoN f bud (P.drop k) = if bud < (totL f (P.drop k) : Int) ∧ 1 < (P.drop k).length then mgoN f bud (P.drop (k + 1)) + 1 else 0 := by
  by_cases h : k < P.length
  · rw [List.drop_eq_getElem_cons h, mgoN]
  · rw [List.drop_of_length_le (by omega)]
    rw [if_neg (by simp)]
    rfl
theorem st_two {w : World} {b : Nat} {t : TypeId} {x y : Value} (h : w.heap[b]? = some (.cells #[x, y] t (0, 0))) : w.cell? ⟨b, 0, none⟩ = some x ∧ w.cell? ⟨b, 1, none⟩ = some y ∧ w.frozen? ⟨b, 1, none⟩ = false ∧ w.frozen? ⟨b, 0, none⟩ = false := by
  refine ⟨?_, ?_, ?_, ?_⟩ <;> simp [World.cell?, World.frozen?, h]
/-- What the model's rounds hold. -/
structure MuI (w wr : World) (q r : Nat) (b : Nat) (v : Value) (L : List Int) : Prop where
  bq : wr.heap[q]? = some (.cells #[.map (some b), v] 33 (0, 0))
  br : wr.heap[r]? = some (.cells #[.map none, .slice none 0 0] 33 (0, 0))
  row : NrO wr w.heap.size v L
  bel : Below w.heap.size w wr
section
variable {w wr w' : World} {q r b : Nat} {v v' : Value} {L L' : List Int}
theorem MuI.new (h : MuI w wr q r b v L) (hb : Below wr.heap.size wr w') : MuI w w' q r b v L :=
  ⟨(hb.block q (lt_blk h.bq)).trans h.bq, (hb.block r (lt_blk h.br)).trans h.br, h.row.new hb, h.bel.trans (hb.mono h.bel.size)⟩
theorem mu_put (hbq : wr.heap[q]? = some (.cells #[.map (some b), v] 33 (0, 0))) (hbr : wr.heap[r]? = some (.cells #[.map none, .slice none 0 0] 33 (0, 0))) (hbel : Below w.heap.size w wr) (hq : w.heap.size ≤ q) (hqr : q ≠ r) (hr : NrO wr w.heap.size v' L') : MuI w (wr.setCell ⟨q, 1, none⟩ v') q r b v' L' := by
  have f : Fr wr (wr.setCell ⟨q, 1, none⟩ v') (fun k => k = q) := Fr.setCell (S := fun k => k = q) wr ⟨q, 1, none⟩ _ rfl
  refine ⟨blk_set (i := 1) v' hbq, (f.block r (lt_blk hbr) (fun e => hqr e.symm)).trans hbr, hr.kept f (fun k hk e => ?_), hbel.trans (f.below hbel.size (fun k e => by rw [e]; exact hq))⟩
  obtain ⟨_, c, f', hm⟩ := hr.tag hk
  rw [e, hbq] at hm
  cases hm
end
set_option linter.unusedSimpArgs false in
set_option maxRecDepth 100000 in
set_option maxHeartbeats 2000000 in
theorem muse {w : World} {b : Nat} {v : Value} {f : Int → Option Bs} {L : List Int} {n bud : Int} (hm : IMp lvS w b f) (hv : NrS w v L) (hL : L.length ≤ 16) (hi : ∀ x ∈ L, I6 x) (hn : I6 n) (hs : ∀ x, lenO f x ≤ 140737488351232) (hbud : I6 bud) :
    Calls Tryz.prog 8 #[mdV b v, .int .i64 n, .int .i64 bud] w fun r w' => ∃ v', r = .returned (.tuple #[mdV b v', .int .i64 (mgoN f bud (woI L n ++ [n]))]) ∧ NrO w' w.heap.size v' ((woI L n ++ [n]).drop (mgoN f bud (woI L n ++ [n]))) ∧ Below w.heap.size w w' := by
  have HMp : Hid (IMp lvS w b f) := hm
  have HSz : Hid (∀ x, lenO f x ≤ 140737488351232) := hs
  have HWo : Hid (∀ W, Below w.heap.size w W → Calls Tryz.prog 10 #[v, .int .i64 n] W fun r w' => ∃ v', r = .returned v' ∧ NrO w' W.heap.size v' (woI L n) ∧ Below W.heap.size W w') := fun W hW => mwithout (hv.new hW) (by omega)
  have hlO := woI_le L n
  have HLs : Hid ((woI L n).length + 1 ≤ 2000000000) := by show _ ≤ _; omega
  obtain ⟨P, hP⟩ : ∃ P, woI L n ++ [n] = P := ⟨_, rfl⟩
  have HP : Hid (woI L n ++ [n] = P) := hP
  have HPl : Hid (P.length ≤ 17 ∧ 1 ≤ P.length) := by
    show _ ∧ _
    rw [← hP, List.length_append]
    constructor
    · simp; omega
    · simp
  have HPi : Hid (∀ x ∈ P, I6 x) := fun x hx => by
    rw [← hP] at hx
    rcases List.mem_append.1 hx with hx | hx
    · exact hi x (mem_woI.1 hx).1
    · rw [List.mem_singleton.1 hx]; exact hn
  rw [hP]
  have hb1 := hbud.1
  have hb2 := hbud.2
  obtain ⟨vo, vl, vc, rfl⟩ : ∃ a l c, v = .slice a l c := (by obtain ⟨a, c, e, _⟩ := hv; exact ⟨a, _, c, e⟩)
  unfold mdV
  clear hm hs hlO hP hi hn hbud hL hv
  go_enter Tryz.func8, Tryz.ntmps8
  go_upto_region 1 with (fail)
  generalize hW : World.alloc _ _ = W
  have hbx : W.heap[w.heap.size]? = some (.cells #[.map (some b), .slice vo vl vc] 33 (0, 0)) := by
    rw [← hW]
    exact (Below.heap_alloc _ _ _ (by simp)).trans (heap_alloc_new _ _)
  have hbr : W.heap[w.heap.size + 1]? = some (.cells #[.map none, .slice none 0 0] 33 (0, 0)) := by
    rw [← hW]
    have := heap_alloc_new (w.alloc (.cells #[.map (some b), .slice vo vl vc] 33)) (.cells #[.map none, .slice none 0 0] 33)
    rw [World.size_alloc] at this
    exact this
  have hbl : Below w.heap.size w W := by
    rw [← hW]
    exact (gone_new _ _).trans ((gone_new _ _).mono (by simp))
  have HI0 : Hid (W.heap[w.heap.size]? = some (.cells #[.map (some b), .slice vo vl vc] 33 (0, 0)) ∧ W.heap[w.heap.size + 1]? = some (.cells #[.map none, .slice none 0 0] 33 (0, 0)) ∧ Below w.heap.size w W) := ⟨hbx, hbr, hbl⟩
  obtain ⟨q, hq⟩ : ∃ q, w.heap.size = q := ⟨_, rfl⟩
  obtain ⟨r, hr⟩ : ∃ r, w.heap.size + 1 = r := ⟨_, rfl⟩
  rw [hr, hq] at HI0
  have HQ : Hid (w.heap.size ≤ q ∧ q ≠ r ∧ w.heap.size = q) := ⟨by omega, by omega, hq⟩
  have HQr : Hid (w.heap.size ≤ r) := by show _ ≤ _; omega
  rw [hr, hq]
  obtain ⟨c0, c1, f1, f0⟩ := st_two HI0.out.1
  have hWo := HWo.out W (by rw [hq]; exact HI0.out.2.2)
  clear hbx hbr hbl hW hr hq
  have HFl : Hid (∀ w1 v1, NrO w1 W.heap.size v1 (woI L n) → Below W.heap.size W w1 → ∀ w3, Fr (w1.alloc (.cells #[.int .i64 n] 3)) w3 (fun k => Value.ownBlock v1 = some k) → Below W.heap.size W w3) := fun w1 v1 h1 h2 w3 f3 => (h2.trans ((gone_new w1 (.cells #[.int .i64 n] 3)).mono h2.size)).trans (NrO.below (NrO.new h1 (gone_new w1 (.cells #[.int .i64 n] 3))) (Nat.le_trans h2.size (by simp)) f3)
  have HbelW : Hid (Below w.heap.size w W) := by show Below _ _ _; rw [HQ.out.2.2]; exact HI0.out.2.2
  go_upto_region 2 with (first
    | (go_at_call 10; refine Calls.mono hWo ?_; rintro rr w1 ⟨v1, rfl, e1, e2⟩; have H1 : Hid (NrO w1 W.heap.size v1 (woI L n)) := e1; have H2 : Hid (Below W.heap.size W w1) := e2; clear e1 e2 hWo)
    | (at_builtin; refine wpl_appN rfl rfl rfl rfl (NrO.new H1.out (gone_new _ _)) (srcN _ _) HLs.out (Nat.le_trans H2.out.size (by simp)) ?_; intro v3 w3 o3 f3 _; obtain ⟨a3, l3, k3, rfl⟩ : ∃ a l c, v3 = .slice a l c := (by obtain ⟨a, c, e⟩ := o3.shape; exact ⟨a, _, c, e⟩); have b3 := HFl.out w1 v1 H1.out H2.out w3 f3; have B3 : Hid (Below W.heap.size W w3) := b3; have x3 := (b3.block q (lt_blk HI0.out.1)).trans HI0.out.1; have O3 : Hid (NrO w3 W.heap.size (.slice a3 l3 k3) (woI L n ++ [n])) := o3; obtain ⟨y0, y1, y2, y3⟩ := st_two x3; clear o3 f3 b3 x3))
  clear y0 y1 y2 y3 c0 c1 f0 f1
  have HM3 : Hid (MuI w (w3.setCell ⟨q, 1, none⟩ (.slice a3 l3 k3)) q r b (.slice a3 l3 k3) P) := by
    have h := O3.out
    rw [HP.out] at h
    exact mu_put ((B3.out.block q (lt_blk HI0.out.1)).trans HI0.out.1) ((B3.out.block r (lt_blk HI0.out.2.1)).trans HI0.out.2.1) (HbelW.out.trans (B3.out.mono HbelW.out.size)) HQ.out.1 HQ.out.2.1 (h.low HbelW.out.size)
  generalize w3.setCell ⟨q, 1, none⟩ (.slice a3 l3 k3) = W4 at HM3 ⊢
  go_wp2
  go_loopw [8] (fun c wr => ∃ (k : Nat) (v : Value), k + 1 ≤ P.length ∧ c = .int .i64 k ∧ MuI w wr q r b v (P.drop k) ∧ Hid (mgoN f bud P = mgoN f bud (P.drop k) + k)) (fun c _ => 17 - (intOf c).toNat)
  case atStart => exact ⟨0, _, by have := HPl.out.2; omega, rfl, by rw [List.drop_zero]; exact HM3.out, rfl⟩
  case round =>
    obtain ⟨k, v, hk, rfl, hI, HGo⟩ := hrel
    obtain ⟨ao, l, cp, rfl, hll⟩ : ∃ a l c, v = .slice a l c ∧ (P.drop k).length = l := (by obtain ⟨a, c, e⟩ := hI.row.shape; exact ⟨a, _, c, e, rfl⟩)
    have HI : Hid (MuI w wr q r b (.slice ao l cp) (P.drop k)) := hI
    have HLl : Hid ((P.drop k).length = l) := hll
    have hpl := HPl.out.1
    have hk17 : k ≤ 17 := by omega
    have hl17 : l ≤ 17 := by rw [← hll, List.length_drop]; omega
    have hUs : Calls Tryz.prog 14 #[.agg #[.map (some b), .slice ao l cp]] wr fun r w' => r = .returned (.int .i64 (totL f (P.drop k))) ∧ Below wr.heap.size wr w' := mused (HMp.out.new HI.out.bel) HI.out.row.toS (by omega) (fun x hx => HPi.out x (List.mem_of_mem_drop hx)) HSz.out
    obtain ⟨t, ht⟩ : ∃ t, totL f (P.drop k) = t := ⟨_, rfl⟩
    have HT : Hid (totL f (P.drop k) = t) := ht
    have htb : t ≤ 17 * 140737488351232 := by
      rw [← ht]
      refine Nat.le_trans (totL_le (P.drop k) (fun x _ => HSz.out x)) (Nat.mul_le_mul_right _ (by omega))
    have HD : Hid (mgoN f bud (P.drop k) = if bud < (t : Int) ∧ 1 < l then mgoN f bud (P.drop (k + 1)) + 1 else 0) := by
      show _ = _
      rw [mgoN_drop, ht, hll]
    rw [ht] at hUs
    have HPk : Hid (k + 1 ≤ P.length) := hk
    clear hI hll ht hk hpl
    by_cases hgt : bud < (t : Int)
    · by_cases hl : 1 < l
      · obtain ⟨g, off, rfl⟩ : ∃ g off, ao = some ⟨g, off, none⟩ := by
          rcases HI.out.row with ⟨e1, e2⟩ | ⟨g, off, cap, e1, _⟩
          · cases e1; omega
          · cases e1; exact ⟨g, off, rfl⟩
        have hlcp : l ≤ cp := by
          rcases HI.out.row with ⟨e1, e2⟩ | ⟨g, off, cap, e1, e2, e3, e4, e5, e6⟩
          · cases e1
          · cases e1
            have := HLl.out
            omega
        have hcpm : cp ≤ 9223372036854775807 := by
          rcases HI.out.row with ⟨e1, e2⟩ | ⟨g, off, cap, e1, e2, e3, e4, e5, e6⟩
          · cases e1
          · cases e1
            exact e5
        go_upto_region 4 with (first
          | (refine wpList_load_row rfl 33 _ rfl q rfl 33 #[.map (some b), .slice (some ⟨g, off, none⟩) l cp] (0, 0) _ HI.out.bq Tryz.underlying33 rfl size_model ?_)
          | (go_at_call 14; refine Calls.mono hUs ?_; rintro rr w5 ⟨rfl, e1⟩; have B5 : Hid (Below wr.heap.size wr w5) := e1; obtain ⟨y0, y1, y2, y3⟩ := st_two ((e1.block q (lt_blk HI.out.bq)).trans HI.out.bq); clear e1 hUs))
        have HI5 : Hid (MuI w w5 q r b (.slice (some ⟨g, off, none⟩) l cp) (P.drop k)) := HI.out.new B5.out
        go_upto_region 5 with (fail)
        have HI6 : Hid (MuI w (w5.setCell ⟨q, 1, none⟩ (.slice (some ⟨g, off + 1, none⟩) (l - 1) (cp - 1))) q r b (.slice (some ⟨g, off + 1, none⟩) (l - 1) (cp - 1)) (P.drop (k + 1))) := by
          have h := NrO.rest (m := 1) HI5.out.row (by have := HLl.out; omega)
          rw [HLl.out, List.drop_drop] at h
          exact mu_put HI5.out.bq HI5.out.br HI5.out.bel HQ.out.1 HQ.out.2.1 h
        clear y0 y1 y2 y3
        generalize w5.setCell ⟨q, 1, none⟩ (.slice (some ⟨g, off + 1, none⟩) (l - 1) (cp - 1)) = W6 at HI6 ⊢
        go_wp2
        go_roundw
        case rel => exact ⟨k + 1, _, by have := HLl.out; rw [List.length_drop] at this; omega, by go_num, HI6.out, by show _ = _; rw [HGo.out, HD.out, if_pos ⟨hgt, hl⟩]; omega⟩
        case measure => have m1 := HPk.out; have m2 := HPl.out.1; simp [intOf]; omega
      · have HZ : Hid (mgoN f bud P = k) := by show _ = _; rw [HGo.out, HD.out, if_neg (by omega)]; omega
        go_upto_region 6 with (first
          | (refine wpList_load_row rfl 33 _ rfl q rfl 33 #[.map (some b), .slice ao l cp] (0, 0) _ HI.out.bq Tryz.underlying33 rfl size_model ?_)
          | (go_at_call 14; refine Calls.mono hUs ?_; rintro rr w5 ⟨rfl, e1⟩; have B5 : Hid (Below wr.heap.size wr w5) := e1; obtain ⟨y0, y1, y2, y3⟩ := st_two ((e1.block q (lt_blk HI.out.bq)).trans HI.out.bq); clear e1 hUs))
        have HI5 : Hid (MuI w w5 q r b (.slice ao l cp) (P.drop k)) := HI.out.new B5.out
        clear y0 y1 y2 y3
        go_wp2_with (first
          | (refine wpList_load_row rfl 33 _ rfl q rfl 33 #[.map (some b), .slice ao l cp] (0, 0) _ HI5.out.bq Tryz.underlying33 rfl size_model ?_)
          | (refine wpList_store_row rfl 33 _ _ rfl _ #[.map (some b), .slice ao l cp] rfl rfl 33 #[.map none, .slice none 0 0] HI5.out.br size_model rfl (by simp [Value.oneCell']) ?_))
        have fS := st_setRow w5 r #[.map (some b), .slice ao l cp]
        have hbR := setRow_heap w5 r _ #[.map (some b), .slice ao l cp] _ _ HI5.out.br
        have hrw : w.heap.size ≤ r := HQr.out
        refine bodyPost_ret (v := .tuple #[.agg #[.map (some b), .slice ao l cp], .int .i64 k]) (res_ctD Tryz.results8 _ _ r 33 #[.map (some b), .slice ao l cp] (0, 0) _ rfl hbR Tryz.underlying33 rfl size_model) rfl ?_
        rw [HZ.out]
        refine ⟨_, rfl, HI5.out.row.kept fS (fun x hx e => ?_), HI5.out.bel.trans (fS.below HI5.out.bel.size (fun x e => by rw [e]; exact hrw))⟩
        obtain ⟨_, c, f', hm⟩ := HI5.out.row.tag hx
        rw [e, HI5.out.br] at hm
        cases hm
    · have HZ : Hid (mgoN f bud P = k) := by show _ = _; rw [HGo.out, HD.out, if_neg (by omega)]; omega
      go_upto_region 6 with (first
        | (refine wpList_load_row rfl 33 _ rfl q rfl 33 #[.map (some b), .slice ao l cp] (0, 0) _ HI.out.bq Tryz.underlying33 rfl size_model ?_)
        | (go_at_call 14; refine Calls.mono hUs ?_; rintro rr w5 ⟨rfl, e1⟩; have B5 : Hid (Below wr.heap.size wr w5) := e1; obtain ⟨y0, y1, y2, y3⟩ := st_two ((e1.block q (lt_blk HI.out.bq)).trans HI.out.bq); clear e1 hUs))
      have HI5 : Hid (MuI w w5 q r b (.slice ao l cp) (P.drop k)) := HI.out.new B5.out
      clear y0 y1 y2 y3
      go_wp2_with (first
        | (refine wpList_load_row rfl 33 _ rfl q rfl 33 #[.map (some b), .slice ao l cp] (0, 0) _ HI5.out.bq Tryz.underlying33 rfl size_model ?_)
        | (refine wpList_store_row rfl 33 _ _ rfl _ #[.map (some b), .slice ao l cp] rfl rfl 33 #[.map none, .slice none 0 0] HI5.out.br size_model rfl (by simp [Value.oneCell']) ?_))
      have fS := st_setRow w5 r #[.map (some b), .slice ao l cp]
      have hbR := setRow_heap w5 r _ #[.map (some b), .slice ao l cp] _ _ HI5.out.br
      have hrw : w.heap.size ≤ r := HQr.out
      refine bodyPost_ret (v := .tuple #[.agg #[.map (some b), .slice ao l cp], .int .i64 k]) (res_ctD Tryz.results8 _ _ r 33 #[.map (some b), .slice ao l cp] (0, 0) _ rfl hbR Tryz.underlying33 rfl size_model) rfl ?_
      rw [HZ.out]
      refine ⟨_, rfl, HI5.out.row.kept fS (fun x hx e => ?_), HI5.out.bel.trans (fS.below HI5.out.bel.size (fun x e => by rw [e]; exact hrw))⟩
      obtain ⟨_, c, f', hm⟩ := HI5.out.row.tag hx
      rw [e, HI5.out.br] at hm
      cases hm
end Go.Proofs.YtjemnkijoiehmaaGreatDoor
end

section
/- StorePlays: has a store just the model's numbers? -/
namespace Go.Proofs.YtjemnkijoiehmaaGreatDoor
open Go.RowKit Go.Maps
variable {Xm : Nat → Prop}
attribute [local go_sem] Oper.semAt_some
theorem IMp.len {α : Type} {lv : α → Value} {w : World} {b : Nat} {f : Int → Option α} {tm te : TypeId} {zv : Value} (T : MT tm te zv) (h : IMp lv w b f) (ty : TypeId) : (Builtin.len_ #[tm] ty #[.map (some b)]).run Tryz.prog w = .ok (.int .i64 ((keysO f).length : Nat)) w := by
  obtain ⟨D, n, h, hm⟩ := h
  rw [h.len T.und ty, hm.size h]
/-- What the rounds hold. -/
structure NbI (w4 W : World) (bs : Nat) (k : Nat) (T : Nat → Prop) : Prop where
  t : T bs
  bx : W.heap[bs]? = some (.cells #[.int .i64 k] 3 (0, 0))
  fr : Fr w4 W (fun j => j = bs ∨ w4.heap.size ≤ j)
theorem NbI.stands {w4 : World} {bs : Nat} : Stands w4.heap.size (fun (pre : List Int) T W => NbI w4 W bs pre.length T) := by
  intro s T W W' h f
  refine ⟨h.t, (f.block bs (lt_blk h.bx) (fun e => e.2 h.t)).trans h.bx, h.fr.trans f (fun i hi e => .inr e.1)⟩
set_option linter.unusedSimpArgs false in
set_option maxRecDepth 100000 in
set_option maxHeartbeats 4000000 in
theorem lnumbers {w : World} {B q p c b : Nat} {K : St} {v : Value} (h : SA Xm w B q p K c) (hm : IMp lvS w b K.f) (hv : ∃ a l c, v = .slice a l c) : Calls Tryz.prog 16 #[.pointer (some ⟨q, 0, none⟩), mdV b v] w fun r w' => r = .returned (.bool true) ∧ Below w.heap.size w w' := by
  obtain ⟨vo, vl, vc, rfl⟩ := hv
  unfold mdV
  have HSA : Hid (SA Xm w B q p K c) := h
  have HM : Hid (IMp lvS w b K.f) := hm
  clear h hm
  refine (callsIn_wide (n := 9)).1 ?_
  refine callsIn_of_wp_marks Tryz.func16 rfl trivial ?_ rfl
  simp only [Tryz.ntmps16, List.size_toArray, List.length_cons, List.length_nil, Nat.reduceAdd, Nat.reduceSub, Array.replicate_succ, Array.replicate_zero, List.push_toArray, List.append_toArray, List.nil_append, List.cons_append]
  have HNm : Hid (∀ W, Below w.heap.size w W → Calls Tryz.prog 23 #[.pointer (some ⟨q, 0, none⟩)] W fun r w' => ∃ bo, r = .returned (.func (.func 61) #[] #[.pointer (some ⟨bo, 0, none⟩)]) ∧ NumAt w' W.heap.size bo (keysO K.f) ∧ Below W.heap.size W w') := fun W hW => snumbers (HSA.out.new hW)
  have HX : Hid (∃ W3, W3 = ((w.alloc (.cells #[.map (some b), .slice vo vl vc] 33)).alloc (.cells #[.bool false] 4)).alloc (.cells #[.int .i64 0] 3) ∧ Below w.heap.size w W3 ∧ W3.heap[w.heap.size]? = some (.cells #[.map (some b), .slice vo vl vc] 33 (0, 0)) ∧ W3.heap[w.heap.size + 1]? = some (.cells #[.bool false] 4 (0, 0)) ∧ W3.heap[w.heap.size + 1 + 1]? = some (.cells #[.int .i64 0] 3 (0, 0))) := by
    refine ⟨_, rfl, (gone_new _ _).trans (((gone_new _ _).mono (by simp)).trans ((gone_new _ _).mono (by simp; omega))), ?_, ?_, ?_⟩
    · exact (Below.heap_alloc _ _ _ (by simp; omega)).trans ((Below.heap_alloc _ _ _ (by simp)).trans (heap_alloc_new _ _))
    · refine (Below.heap_alloc _ _ _ (by simp)).trans ?_
      have := heap_alloc_new (w.alloc (.cells #[.map (some b), .slice vo vl vc] 33)) (.cells #[.bool false] 4)
      rw [World.size_alloc] at this
      exact this
    · have := heap_alloc_new ((w.alloc (.cells #[.map (some b), .slice vo vl vc] 33)).alloc (.cells #[.bool false] 4)) (.cells #[.int .i64 0] 3)
      rw [World.size_alloc, World.size_alloc] at this
      exact this
  obtain ⟨W3, hW3, hb3, x0, x1, x2⟩ := HX.out
  have HB3 : Hid (Below w.heap.size w W3) := hb3
  have hN := HNm.out W3 hb3
  have hs3 : W3.heap.size = w.heap.size + 1 + 1 + 1 := by rw [hW3]; simp
  have HS3 : Hid (W3.heap.size = w.heap.size + 1 + 1 + 1) := hs3
  have HX0 : Hid (W3.heap[w.heap.size]? = some (.cells #[.map (some b), .slice vo vl vc] 33 (0, 0)) ∧ W3.heap[w.heap.size + 1]? = some (.cells #[.bool false] 4 (0, 0)) ∧ W3.heap[w.heap.size + 1 + 1]? = some (.cells #[.int .i64 0] 3 (0, 0))) := ⟨x0, x1, x2⟩
  have HW3 : Hid (W3 = ((w.alloc (.cells #[.map (some b), .slice vo vl vc] 33)).alloc (.cells #[.bool false] 4)).alloc (.cells #[.int .i64 0] 3)) := hW3
  rw [hW3] at hN
  clear hb3 x0 x1 x2 HX hs3 hW3
  gi_wp2_with (refine ⟨trivial, ?_⟩; gi_at_call 23; refine (callsIn_wide.2 hN).mono ?_; rintro r w4 ⟨bo, rfl, e1, e2⟩; rw [← HW3.out] at e1 e2; have HNa : Hid (NumAt w4 W3.heap.size bo (keysO K.f)) := e1; have HB4 : Hid (Below W3.heap.size W3 w4) := e2; clear e1 e2 hN)
  clear HW3
  have hbm4 := (HB4.out.block _ (lt_blk HX0.out.1)).trans HX0.out.1
  have hbr4 := (HB4.out.block _ (lt_blk HX0.out.2.1)).trans HX0.out.2.1
  have hbs4 := (HB4.out.block _ (lt_blk HX0.out.2.2)).trans HX0.out.2.2
  have HQ : Hid (w.heap.size < w.heap.size + 1 ∧ w.heap.size + 1 < w.heap.size + 1 + 1 ∧ w.heap.size + 1 + 1 < W3.heap.size) := ⟨by omega, by omega, by rw [HS3.out]; omega⟩
  have HL4 : Hid (Below w.heap.size w w4) := HB3.out.trans (HB4.out.mono HB3.out.size)
  have HM4 : Hid (IMp lvS w4 b K.f) := HM.out.new HL4.out
  have HbM : Hid (b < w.heap.size) := HM.out.lt
  have HWl : Hid (w.heap.size ≤ w.heap.size) := Nat.le_refl _
  obtain ⟨bm, hbm⟩ : ∃ bm, w.heap.size = bm := ⟨_, rfl⟩
  obtain ⟨br, hbr⟩ : ∃ br, w.heap.size + 1 = br := ⟨_, rfl⟩
  obtain ⟨bs, hbs⟩ : ∃ bs, w.heap.size + 1 + 1 = bs := ⟨_, rfl⟩
  rw [hbs, hbr] at HQ
  rw [hbm] at HQ HbM hbm4 HWl
  rw [hbr] at hbr4
  rw [hbs] at hbs4
  rw [hbs, hbr, hbm]
  have HC4 : Hid (w4.heap[bm]? = some (.cells #[.map (some b), .slice vo vl vc] 33 (0, 0)) ∧ w4.heap[br]? = some (.cells #[.bool false] 4 (0, 0)) ∧ w4.heap[bs]? = some (.cells #[.int .i64 0] 3 (0, 0))) := ⟨hbm4, hbr4, hbs4⟩
  have HBm : Hid (w.heap.size = bm) := hbm
  have HB34 : Hid (W3.heap.size ≤ w4.heap.size) := HB4.out.size
  have HKo : Hid (∀ x ∈ keysO K.f, ∃ s, K.f x = some s ∧ I6 x) := fun x hx => by
    have hsup := HSA.out.ok.sup
    have h1 := (mem_keysO hsup).1 hx
    obtain ⟨s, hs⟩ := Option.isSome_iff_exists.1 h1
    have := hsup x h1
    exact ⟨s, hs, i6_few this.1 this.2⟩
  clear hbm4 hbr4 hbs4 hbm hbr hbs HS3 HB3 HX0 HNm
  have hRl := keysO_len (f := K.f)
  obtain ⟨R, hRe⟩ : ∃ R, keysO K.f = R := ⟨_, rfl⟩
  have HRe : Hid (keysO K.f = R) := hRe
  rw [hRe] at HNa hRl HKo
  obtain ⟨hlow, ao, cap, hbo, hrow⟩ := HNa.out
  refine wpIn_rangeT (lb := #[.pointer (some ⟨bo, 0, none⟩)]) (gf := 61) rfl (enters_of Tryz.func61 (by kernel_rfl) rfl)
    (values_T bo ao cap R (by omega) w4 (fun k => W3.heap.size ≤ k ∧ k < w4.heap.size) (fun k hk => hk.2) hbo (fun h0 => by
      obtain ⟨g, off, e, hg, hc⟩ := hrow h0
      exact ⟨g, off, e, ⟨hg, glt_cell (hc 0 h0)⟩, hc⟩)) (Below.refl _ _) (fun _ => rfl)
    (fun pre T W => NbI w4 W bs pre.length T) (fun _ _ _ _ => False) NbI.stands (fun _ _ _ _ _ h _ => h.elim) (fun k => k = bs) (fun k hk => by
      rw [hk]
      exact ⟨lt_blk HC4.out.2.2, fun e => by have := HQ.out.2.2; omega⟩) ⟨rfl, HC4.out.2.2, Fr.refl _ _⟩ ?round ?done (fun _ _ _ _ _ _ _ h => h.elim)
  case round =>
    rintro m l pre T x W hl0 ⟨r, hrr⟩ hTl hI _ hpre
    have HI : Hid (NbI w4 W bs pre.length T) := hI
    have hxR : x ∈ R := by
      obtain ⟨tl, e⟩ := hpre
      rw [← e]
      simp
    have hplen : pre.length ≤ 16 := by
      have := hpre.length_le
      simp at this
      omega
    obtain ⟨s, hfx, hix⟩ := HKo.out x hxR
    have HLk : Hid (∀ V, Fr W V (fun k => k = l) → (V.cell? ⟨bm, 0, none⟩ = some (.map (some b)) ∧ V.cell? ⟨bs, 0, none⟩ = some (.int .i64 pre.length) ∧ V.frozen? ⟨bs, 0, none⟩ = false ∧ (Instr.lookup 30 (.map (some b)) (.int .i64 x) true).run Tryz.prog V = .ok (.tuple #[.string (str s), .bool true]) V)) := fun V hV => by
      have hq := HQ.out
      have hb34 := HB34.out
      have hbm' := HbM.out
      have f4 : Fr w4 V (fun j => j = bs ∨ w4.heap.size ≤ j) := HI.out.fr.trans hV (fun i hi e => by rw [e]; exact .inr hl0)
      have hm := (f4.block bm (lt_blk HC4.out.1) (by omega)).trans HC4.out.1
      have hs := (hV.block bs (lt_blk HI.out.bx) (fun e => hTl (e ▸ HI.out.t))).trans HI.out.bx
      have hmp := HM4.out.kept f4 (by omega)
      have hlk := hmp.lookOk mtS hix
      rw [hfx] at hlk
      exact ⟨by simp [World.cell?, hm], by simp [World.cell?, hs], by simp [World.frozen?, hs], hlk⟩
    clear hI hxR hfx hpre
    dsimp only [encI]
    gi_wp2
    refine ⟨Fr.refl _ _, fun W2 f2 => ?_⟩
    obtain ⟨z0, z1, z2, z3⟩ := HLk.out W2 f2
    gi_wp2
    have hbs2 := (f2.block bs (lt_blk HI.out.bx) (fun e => hTl (e ▸ HI.out.t))).trans HI.out.bx
    refine ⟨T, Fr.setCell (S := T) W2 ⟨bs, 0, none⟩ _ HI.out.t, Grows.refl _ _ _, ⟨HI.out.t, ?_, ?_⟩⟩
    · have := blk_set (i := 0) (.int .i64 ((pre.length : Int) + 1)) hbs2
      rw [List.length_append, List.length_singleton]
      simpa using this
    · have f3 : Fr w4 W2 (fun j => j = bs ∨ w4.heap.size ≤ j) := HI.out.fr.trans f2 (fun i hi e => by rw [e]; exact .inr hl0)
      exact f3.trans (Fr.setCell (S := fun k => k = bs) W2 ⟨bs, 0, none⟩ _ rfl) (fun i hi e => .inl e)
  case done =>
    rintro D xs T W hD rfl hI hTD hK
    have HI : Hid (NbI w4 W bs xs.length T) := hI
    have hq := HQ.out
    have hb34 := HB34.out
    have hbm' := HbM.out
    have hm := (HI.out.fr.block bm (lt_blk HC4.out.1) (by omega)).trans HC4.out.1
    have hr := (HI.out.fr.block br (lt_blk HC4.out.2.1) (by omega)).trans HC4.out.2.1
    have hmp := HM4.out.kept HI.out.fr (by omega)
    have hlen := hmp.len mtS 3
    rw [HRe.out] at hlen
    have z0 : W.cell? ⟨bm, 0, none⟩ = some (.map (some b)) := by simp [World.cell?, hm]
    have z1 : W.cell? ⟨bs, 0, none⟩ = some (.int .i64 xs.length) := by simp [World.cell?, HI.out.bx]
    have z2 : W.cell? ⟨br, 0, none⟩ = some (.bool false) := by simp [World.cell?, hr]
    have z3 : W.frozen? ⟨br, 0, none⟩ = false := by simp [World.frozen?, hr]
    have HR : Hid (W.heap[br]? = some (.cells #[.bool false] 4 (0, 0))) := hr
    have HKd : Hid (W.heap[D]? = some (.deferred (some []))) := hK
    have HDw : Hid (w4.heap.size ≤ D) := hD
    clear hm hr hmp hI hq hb34 hbm' hK hD
    gi_wp2
    have fS : Fr W (W.setCell ⟨br, 0, none⟩ (.bool true)) (fun k => k = br) := Fr.setCell (S := fun k => k = br) W ⟨br, 0, none⟩ _ rfl
    have hr5 := blk_set (i := 0) (.bool true) HR.out
    generalize W.setCell ⟨br, 0, none⟩ (.bool true) = W5 at fS hr5 ⊢
    have hq := HQ.out
    have hb34 := HB34.out
    have hDbr : ¬ D = br := fun e => by have := HDw.out; omega
    have hK5 := (fS.block D (lt_blk HKd.out) hDbr).trans HKd.out
    have hc : (W5.putObj D (.deferred none)).cell? ⟨br, 0, none⟩ = some (.bool true) := by
      have := World.putObj_heap_other (w := W5) (r := D) (k := br) (o := .deferred none) (fun e => hDbr e.symm)
      simp [World.cell?, this, hr5]
    have fD : Fr W5 (W5.putObj D (.deferred none)) (fun k => k = D) := Fr.putObj _ rfl
    refine ret_marks1 (v := .bool true) (by simp [results, Tryz.results16, go_sem, hc]) rfl hK5 ⟨rfl, ?_⟩
    rw [HBm.out]
    have hl4 : Below bm w w4 := by rw [← HBm.out]; exact HL4.out
    have hsz := HI.out.fr.size
    exact ((hl4.trans (HI.out.fr.below (by omega) (fun k e => by omega))).trans (fS.below (by omega) (fun k e => by omega))).trans (fD.below (by have := fS.size; omega) (fun k e => by have := HDw.out; omega))
end Go.Proofs.YtjemnkijoiehmaaGreatDoor
end

section
/- StorePlays: what the law holds: the store, its own model beside it. -/
namespace Go.Proofs.YtjemnkijoiehmaaGreatDoor
open Go.RowKit Go.Maps
variable {Xm : Nat → Prop}
theorem held_tot (f : Int → Option Bs) (near : List Int) (L : List Int) (h : ∀ x ∈ L, x ∈ near) : byt (heldO f near) L = totL f L := by
  induction L with
  | nil => rfl
  | cons m r ih =>
    rw [byt_cons, totL_cons, ih (fun x hx => h x (List.mem_cons_of_mem _ hx)), held_near f near (h m (List.mem_cons_self ..))]
/-- The model lets go just what the store does. -/
theorem mgo_go (f : Int → Option Bs) (near : List Int) (bud : Int) (n : Int) (t : Bs) (L : List Int) (hL : ∀ x ∈ L, x ∈ near) (hn : n ∉ L) : mgoN (setO f n t) bud (L ++ [n]) = goN (heldO f near) bud L (byt (heldO f near) L + t.length) := by
  induction L with
  | nil =>
    rw [List.nil_append, mgoN, if_neg (by simp)]
    rfl
  | cons m r ih =>
    have hnr : n ∉ r := fun h => hn (List.mem_cons_of_mem _ h)
    have hmn : m ≠ n := fun e => hn (by rw [e]; exact List.mem_cons_self ..)
    have ih' := ih (fun x hx => hL x (List.mem_cons_of_mem _ hx)) hnr
    have ht : totL (setO f n t) (m :: (r ++ [n])) = byt (heldO f near) (m :: r) + t.length := by
      have e1 : totL (setO f n t) (m :: r) = totL f (m :: r) := totL_ne _ _ _ (fun x hx => set_ne (fun e => hn (by rw [← e]; exact hx)))
      have e2 := held_tot f near (m :: r) hL
      have e3 : totL (setO f n t) ((m :: r) ++ [n]) = totL (setO f n t) (m :: r) + totL (setO f n t) [n] := totL_app _ _ _
      have e4 : totL (setO f n t) [n] = t.length := by
        rw [totL_cons]
        unfold lenO
        rw [set_same]
        rfl
      rw [← List.cons_append, e3, e1, e2, e4]
    have hb : byt (heldO f near) (m :: r) + t.length - lenH (heldO f near) m = byt (heldO f near) r + t.length := by rw [byt_cons]; omega
    rw [List.cons_append, mgoN, goN, ht, hb, ih']
    by_cases hle : ((byt (heldO f near) (m :: r) + t.length : Nat) : Int) ≤ bud
    · rw [if_pos hle, if_neg (by omega)]
    · rw [if_neg hle, if_pos ⟨by omega, by simp⟩]
theorem use_mgo {K : St} {n : Int} {t : Bs} (_h : K.ok) : mgoN (setO K.f n t) K.bud (woI K.near n ++ [n]) = K.go n t ∧ (woI K.near n ++ [n]).drop (K.go n t) = (K.use n t).near := by
  refine ⟨mgo_go K.f K.near K.bud n t (woI K.near n) (fun x hx => (mem_woI.1 hx).1) (woI_not _ _), ?_⟩
  unfold St.use
  exact List.drop_append_of_le_length (goN_le _ _ _ _)
/-- The store, and the model's box, map and row. -/
structure PlI (w : World) (qs ps bm : Nat) (wr : World) (Xm : Nat → Prop) (b : Nat) (v : Value) (K : St) (c : Nat) (f : Int → Option Bs) (N : List Int) : Prop where
  sa : SA Xm wr w.heap.size qs ps K c
  xb : Xm b
  bx : wr.heap[bm]? = some (.cells #[.map (some b), v] 33 (0, 0))
  mp : IMp lvS wr b f
  row : NrO wr w.heap.size v N
  bel : Below w.heap.size w wr
  hb : w.heap.size ≤ b
  hm : w.heap.size ≤ bm
section
variable {w wr w' : World} {qs ps bm b c c' : Nat} {v v' : Value} {K K' : St} {f g : Int → Option Bs} {N N' : List Int}
theorem PlI.low (h : PlI w qs ps bm wr Xm b v K c f N) : w.heap.size ≤ wr.heap.size := h.bel.size
theorem PlI.call (h : PlI w qs ps bm wr Xm b v K c f N) (hq : StQ Xm wr w' w.heap.size qs ps K' c') : PlI w qs ps bm w' Xm b v K' c' f N := by
  refine ⟨hq.1, h.xb, (hq.2.block bm (lt_blk h.bx) (fun s => ?_)).trans h.bx, h.mp.kept hq.2 (fun s => s.2.2 h.xb), NrO.frT h.row hq.2, h.bel.trans (hq.2.below h.low), h.hb, h.hm⟩
  rcases s.2.1 with ⟨es, c', hm⟩ | ⟨c', t, f'', hm, ht⟩
  · rw [h.bx] at hm; cases hm
  · rw [h.bx] at hm
    cases hm
    rcases ht with ht | ht | ht <;> exact absurd ht (by decide)
theorem PlI.new (h : PlI w qs ps bm wr Xm b v K c f N) (hb : Below wr.heap.size wr w') : PlI w qs ps bm w' Xm b v K c f N :=
  ⟨h.sa.new hb, h.xb, (hb.block bm (lt_blk h.bx)).trans h.bx, h.mp.new hb, h.row.new hb, h.bel.trans (hb.mono h.low), h.hb, h.hm⟩
/-- The store's block is no model's. -/
theorem SA.apart {B q p d : Nat} {cs : Array Value} (h : SA Xm wr B q p K c) (hb : wr.heap[bm]? = some (.cells cs 33 (0, 0))) (f : Fr wr w' (fun k => k = bm)) (_ : d = 0) : SA Xm w' B q p K c := by
  obtain ⟨A, mb, mv, h⟩ := h
  have hq : q ≠ bm := fun e => by
    have := h.blk
    unfold StBl at this
    rw [e, hb] at this
    cases this
  refine ⟨A, mb, mv, (f.block q (lt_blk h.blk) hq).trans h.blk, h.tx.kept f (fun k e s => ?_), h.mem.kept f (fun k e s => ?_), st_dkkeep h.dk f (fun k e => by rw [e]; exact ⟨_, _, _, hb, by decide, by decide⟩), h.di, h.ok, h.fl, h.hq, h.hm, h.nq, h.nm, h.nv⟩
  · have htx := h.tx
    subst e
    obtain ⟨es, c', hm⟩ := IMp.isMap htx
    rw [s, hb] at hm
    cases hm
  · obtain ⟨_, c', f', hm⟩ := h.mem.tag e
    rw [s, hb] at hm
    cases hm
/-- The model's row is put. -/
theorem PlI.set (h : PlI w qs ps bm wr Xm b v K c f N) (hf : Fr wr w' (fun k => k = bm)) (hbx : w'.heap[bm]? = some (.cells #[.map (some b), v'] 33 (0, 0))) (hv : NrO wr w.heap.size v' N') : PlI w qs ps bm w' Xm b v' K c f N' := by
  refine ⟨h.sa.apart h.bx hf rfl, h.xb, hbx, h.mp.kept hf (fun e => ?_), hv.kept hf (fun k hk e => ?_), h.bel.trans (hf.below h.low (fun k e => by rw [e]; exact h.hm)), h.hb, h.hm⟩
  · obtain ⟨es, c', hm⟩ := h.mp.isMap
    rw [e, h.bx] at hm
    cases hm
  · obtain ⟨_, c', f', hm⟩ := hv.tag hk
    rw [e, h.bx] at hm
    cases hm
/-- The model's map is changed. -/
theorem PlI.upd (h : PlI w qs ps bm wr Xm b v K c f N) (hf : Fr wr w' (fun k => k = b)) (hmp : IMp lvS w' b g) : PlI w qs ps bm w' Xm b v K c g N := by
  have hmm := h.mp.isMap
  refine ⟨h.sa.kept hf (fun k e => by rw [e]; exact h.xb), h.xb, (hf.block bm (lt_blk h.bx) (fun e => ?_)).trans h.bx, hmp, h.row.kept hf (fun k hk e => ?_), h.bel.trans (hf.below h.low (fun k e => by rw [e]; exact h.hb)), h.hb, h.hm⟩
  · obtain ⟨es, c', hm⟩ := hmm
    rw [← e, h.bx] at hm
    cases hm
  · obtain ⟨es, c', hm⟩ := hmm
    obtain ⟨_, c'', f', hm'⟩ := h.row.tag hk
    rw [e, hm] at hm'
    cases hm'
/-- The model begins anew. -/
theorem PlI.anew (h : PlI w qs ps bm wr Xm b v K c f N) (hf : Fr (wr.alloc (.map #[] 0)) w' (fun k => k = bm)) (hbx : w'.heap[bm]? = some (.cells #[.map (some wr.heap.size), .slice none 0 0] 33 (0, 0))) : PlI w qs ps bm w' (fun k => Xm k ∨ (wr.heap.size ≤ k ∧ k < (wr.alloc (.map #[] 0)).heap.size)) wr.heap.size (.slice none 0 0) K c noneO [] := by
  have hb1 := gone_new wr (.map #[] 0)
  have h1 := h.new hb1
  have hlt := lt_blk h.bx
  refine ⟨(h.sa.grow (Fr.ofBelow hb1 (fun _ => False)) (fun _ f => f.elim)).apart h1.bx hf rfl, .inr ⟨Nat.le_refl _, by simp⟩, hbx, (IMp.made lvS wr).kept hf (fun e => by omega), NrO.nil _ _, h1.bel.trans (hf.below h1.low (fun k e => by rw [e]; exact h.hm)), h.low, h.hm⟩
end
end Go.Proofs.YtjemnkijoiehmaaGreatDoor
end

section
/- Acts on a store, on plain data and in memory. -/
namespace Go.Proofs.YtjemnkijoiehmaaGreatDoor
open Go.RowKit
/-- An act on plain data. -/
structure Sct where
  k : Int
  n : Int
  s : Bs
def SctS (w : World) (b off : Nat) (Y : List Sct) : Prop := ∀ j (h : j < Y.length), w.cell? ⟨b, off + j * 3, none⟩ = some (.int .i64 Y[j].k) ∧ w.cell? ⟨b, off + j * 3 + 1, none⟩ = some (.int .i64 Y[j].n) ∧ w.cell? ⟨b, off + j * 3 + 2, none⟩ = some (.string (str Y[j].s)) ∧ I6 Y[j].n ∧ Y[j].s.length ≤ 140737488351232
def sumS (Y : List Sct) : Nat := (Y.map (fun y => y.s.length)).sum
end Go.Proofs.YtjemnkijoiehmaaGreatDoor
end

section
/- StorePlays: .. and the act that is done. -/
namespace Go.Proofs.YtjemnkijoiehmaaGreatDoor
open Go.RowKit Go.Maps
theorem st_lenO {K : St} (h : K.ok) (x : Int) : lenO K.f x ≤ 140737488351232 := by
  unfold lenO
  cases e : K.f x with
  | none => exact Nat.zero_le _
  | some s => exact h.siz x s e
/-- What the law holds while an act is done. -/
structure PlX (w : World) (qs ps bm ab : Nat) (y : Sct) (wr : World) (Xm : Nat → Prop) (b : Nat) (v : Value) (K : St) (c : Nat) (f : Int → Option Bs) (N : List Int) : Prop where
  pl : PlI w qs ps bm wr Xm b v K c f N
  ax : wr.heap[ab]? = some (.cells #[.int .i64 y.k, .int .i64 y.n, .string (str y.s)] 35 (0, 0))
section
variable {w wr w' : World} {qs ps bm ab b c c' : Nat} {y : Sct} {v v' : Value} {K K' : St} {f g : Int → Option Bs} {N N' : List Int} {Xm : Nat → Prop}
theorem PlX.cells (h : PlX w qs ps bm ab y wr Xm b v K c f N) : wr.cell? ⟨ab, 0, none⟩ = some (.int .i64 y.k) ∧ wr.cell? ⟨ab, 1, none⟩ = some (.int .i64 y.n) ∧ wr.cell? ⟨ab, 2, none⟩ = some (.string (str y.s)) ∧ wr.cell? ⟨bm, 0, none⟩ = some (.map (some b)) ∧ wr.cell? ⟨bm, 1, none⟩ = some v ∧ wr.frozen? ⟨bm, 0, none⟩ = false ∧ wr.frozen? ⟨bm, 1, none⟩ = false := by
  have h1 := h.ax
  have h2 := h.pl.bx
  refine ⟨?_, ?_, ?_, ?_, ?_, ?_, ?_⟩ <;> simp [World.cell?, World.frozen?, h1, h2]
theorem PlX.ne (h : PlX w qs ps bm ab y wr Xm b v K c f N) : ab ≠ bm := fun e => by
  have h1 := h.ax
  rw [e, h.pl.bx] at h1
  cases h1
theorem PlX.call (h : PlX w qs ps bm ab y wr Xm b v K c f N) (hq : StQ Xm wr w' w.heap.size qs ps K' c') : PlX w qs ps bm ab y w' Xm b v K' c' f N := by
  refine ⟨h.pl.call hq, (hq.2.block ab (lt_blk h.ax) (fun s => ?_)).trans h.ax⟩
  rcases s.2.1 with ⟨es, c', hm⟩ | ⟨c', t, f'', hm, ht⟩
  · rw [h.ax] at hm; cases hm
  · rw [h.ax] at hm
    cases hm
    rcases ht with ht | ht | ht <;> exact absurd ht (by decide)
theorem PlX.new (h : PlX w qs ps bm ab y wr Xm b v K c f N) (hb : Below wr.heap.size wr w') : PlX w qs ps bm ab y w' Xm b v K c f N := ⟨h.pl.new hb, (hb.block ab (lt_blk h.ax)).trans h.ax⟩
/-- The model's row is put, cell by cell. -/
theorem PlX.set (h : PlX w qs ps bm ab y wr Xm b v K c f N) (hv : NrO wr w.heap.size v' N') (hf : Fr wr w' (fun k => k = bm)) (hbx : w'.heap[bm]? = some (.cells #[.map (some b), v'] 33 (0, 0))) : PlX w qs ps bm ab y w' Xm b v' K c f N' :=
  ⟨h.pl.set hf hbx hv, (hf.block ab (lt_blk h.ax) (fun e => h.ne e)).trans h.ax⟩
theorem PlX.set1 (h : PlX w qs ps bm ab y wr Xm b v K c f N) (hv : NrO wr w.heap.size v' N') : PlX w qs ps bm ab y (wr.setCell ⟨bm, 1, none⟩ v') Xm b v' K c f N' :=
  h.set hv (Fr.setCell (S := fun k => k = bm) wr ⟨bm, 1, none⟩ _ rfl) (blk_set (i := 1) v' h.pl.bx)
theorem PlX.setR (h : PlX w qs ps bm ab y wr Xm b v K c f N) (hv : NrO wr w.heap.size v' N') : PlX w qs ps bm ab y (wr.setRow bm #[.map (some b), v']) Xm b v' K c f N' :=
  h.set hv (st_setRow wr bm _) (setRow_heap wr bm _ #[.map (some b), v'] _ _ h.pl.bx)
theorem PlX.upd (h : PlX w qs ps bm ab y wr Xm b v K c f N) (hf : Fr wr w' (fun k => k = b)) (hmp : IMp lvS w' b g) : PlX w qs ps bm ab y w' Xm b v K c g N := by
  refine ⟨h.pl.upd hf hmp, (hf.block ab (lt_blk h.ax) (fun e => ?_)).trans h.ax⟩
  obtain ⟨es, c', hm⟩ := h.pl.mp.isMap
  rw [← e, h.ax] at hm
  cases hm
theorem PlX.anew (h : PlX w qs ps bm ab y wr Xm b v K c f N) : ∃ Xn : Nat → Prop, PlX w qs ps bm ab y ((wr.alloc (.map #[] 0)).setRow bm #[.map (some wr.heap.size), .slice none 0 0]) Xn wr.heap.size (.slice none 0 0) K c noneO [] := by
  have hb1 := gone_new wr (.map #[] 0)
  have hbx1 := (hb1.block bm (lt_blk h.pl.bx)).trans h.pl.bx
  have hax1 := (hb1.block ab (lt_blk h.ax)).trans h.ax
  have hf := st_setRow (wr.alloc (.map #[] 0)) bm #[.map (some wr.heap.size), .slice none 0 0]
  exact ⟨_, h.pl.anew hf (setRow_heap _ bm _ _ _ _ hbx1), (hf.block ab (lt_blk hax1) (fun e => h.ne e)).trans hax1⟩
theorem PlX.mono (h : PlX w qs ps bm ab y wr Xm b v K c f N) {d : Nat} (hd : c ≤ d) : PlX w qs ps bm ab y wr Xm b v K d f N := ⟨{ h.pl with sa := h.pl.sa.mono hd }, h.ax⟩
/-- A text of the model is looked up. -/
theorem PlX.look (h : PlX w qs ps bm ab y wr Xm b v K c f N) (hi : I6 y.n) : (Instr.lookup 30 (.map (some b)) (.int .i64 y.n) true).run Tryz.prog wr = .ok (.tuple #[.string (str ((f y.n).getD [])), .bool (f y.n).isSome]) wr := by
  have := h.pl.mp.lookOk mtS hi
  rw [lvs_getD] at this
  exact this
end
end Go.Proofs.YtjemnkijoiehmaaGreatDoor
end

section
/- The library's functions at the disk's types: which of the program's functions are the library's. -/
namespace Go.Proofs.YtjemnkijoiehmaaGreatDoor
open Go.Shelf Go.Proofs
def layKeys_ren : Go.Shelf.Ren := ⟨fun | 7 => 27 | 10 => 44 | n => n, fun | 23 => 50 | 26 => 9 | 3 => 72 | 28 => 69 | 0 => 0 | 27 => 68 | 33 => 91 | 4 => 4 | n => n, fun | n => n⟩
theorem layKeys : Go.Proofs.SlLaysZ.n7 Tryz.prog layKeys_ren := {
  mixed := by kernel_rfl,
  f7 := ⟨Tryz.f27.name, by decide, Tryz.func27.trans (congrArg some (by kernel_rfl))⟩,
  f10 := ⟨Tryz.f44.name, by decide, Tryz.func44.trans (congrArg some (by kernel_rfl))⟩,
  t0 := Tryz.underlying0,
  a0 := Tryz.isAgg0,
  z0 := Tryz.sizeOf0,
  v0 := Tryz.zeroValue0,
  t4 := Tryz.underlying4,
  a4 := Tryz.isAgg4,
  z4 := Tryz.sizeOf4,
  v4 := Tryz.zeroValue4,
  t23 := Tryz.underlying50,
  a23 := Tryz.isAgg50,
  z23 := Tryz.sizeOf50,
  v23 := Tryz.zeroValue50,
  t26 := Tryz.underlying9,
  a26 := Tryz.isAgg9,
  z26 := Tryz.sizeOf9,
  v26 := Tryz.zeroValue9,
  t27 := Tryz.underlying68,
  a27 := Tryz.isAgg68,
  z27 := Tryz.sizeOf68,
  v27 := Tryz.zeroValue68,
  t28 := Tryz.underlying69,
  a28 := Tryz.isAgg69,
  z28 := Tryz.sizeOf69,
  v28 := Tryz.zeroValue69,
  t33 := Tryz.underlying91,
  a33 := Tryz.isAgg91,
  z33 := Tryz.sizeOf91,
  v33 := Tryz.zeroValue91 }
def laySorted_ren : Go.Shelf.Ren := ⟨fun | 6 => 26 | 8 => 42 | 9 => 43 | 11 => 65 | 13 => 67 | 12 => 66 | 23 => 88 | 24 => 89 | 14 => 79 | 15 => 80 | 16 => 81 | 17 => 82 | 18 => 83 | 19 => 84 | 20 => 85 | 21 => 86 | 22 => 87 | 25 => 107 | 26 => 108 | 27 => 109 | 28 => 110 | 29 => 111 | 30 => 112 | 31 => 122 | n => n, fun | 26 => 9 | 28 => 69 | 24 => 55 | 0 => 0 | 3 => 3 | 37 => 98 | 48 => 57 | 50 => 116 | 4 => 4 | 40 => 130 | 39 => 129 | 45 => 135 | 5 => 5 | 9 => 9 | 51 => 154 | 55 => 158 | 57 => 167 | 58 => 168 | 33 => 91 | n => n, fun | n => n⟩
theorem laySorted : Go.Proofs.SlLaysZ.n6 Tryz.prog laySorted_ren := {
  mixed := by kernel_rfl,
  f6 := ⟨Tryz.f26.name, by decide, Tryz.func26.trans (congrArg some (by kernel_rfl))⟩,
  f8 := ⟨Tryz.f42.name, by decide, Tryz.func42.trans (congrArg some (by kernel_rfl))⟩,
  f11 := ⟨Tryz.f65.name, by decide, Tryz.func65.trans (congrArg some (by kernel_rfl))⟩,
  t0 := Tryz.underlying0,
  a0 := Tryz.isAgg0,
  z0 := Tryz.sizeOf0,
  v0 := Tryz.zeroValue0,
  t24 := Tryz.underlying55,
  a24 := Tryz.isAgg55,
  z24 := Tryz.sizeOf55,
  v24 := Tryz.zeroValue55,
  t26 := Tryz.underlying9,
  a26 := Tryz.isAgg9,
  z26 := Tryz.sizeOf9,
  v26 := Tryz.zeroValue9,
  t28 := Tryz.underlying69,
  a28 := Tryz.isAgg69,
  z28 := Tryz.sizeOf69,
  v28 := Tryz.zeroValue69,
  i26 := by kernel_rfl }
def laySortS_ren : Go.Shelf.Ren := ⟨fun | 6 => 43 | 8 => 67 | 9 => 66 | 19 => 88 | 20 => 89 | 21 => 79 | 22 => 80 | 23 => 81 | 24 => 82 | 25 => 83 | 26 => 84 | 27 => 85 | 28 => 86 | 29 => 87 | 36 => 107 | 31 => 108 | 32 => 109 | 37 => 110 | 38 => 111 | 39 => 112 | 41 => 122 | n => n, fun | 27 => 55 | 29 => 9 | 3 => 3 | 32 => 98 | 26 => 55 | 0 => 0 | 44 => 57 | 46 => 116 | 4 => 4 | 36 => 130 | 35 => 129 | 41 => 135 | 5 => 5 | 9 => 9 | 53 => 154 | 57 => 158 | 63 => 167 | 64 => 168 | n => n, fun | n => n⟩
theorem laySortS : Go.Proofs.SlLaysM.n6 Tryz.prog laySortS_ren := {
  mixed := by kernel_rfl,
  f6 := ⟨Tryz.f43.name, by decide, Tryz.func43.trans (congrArg some (by kernel_rfl))⟩,
  f8 := Tryz.func67.trans (congrArg some (by kernel_rfl)),
  f9 := ⟨Tryz.f66.name, by decide, Tryz.func66.trans (congrArg some (by kernel_rfl))⟩,
  f19 := Tryz.func88.trans (congrArg some (by kernel_rfl)),
  f20 := Tryz.func89.trans (congrArg some (by kernel_rfl)),
  f21 := ⟨Tryz.f79.name, by decide, Tryz.func79.trans (congrArg some (by kernel_rfl))⟩,
  f22 := ⟨Tryz.f80.name, by decide, Tryz.func80.trans (congrArg some (by kernel_rfl))⟩,
  f23 := ⟨Tryz.f81.name, by decide, Tryz.func81.trans (congrArg some (by kernel_rfl))⟩,
  f24 := ⟨Tryz.f82.name, by decide, Tryz.func82.trans (congrArg some (by kernel_rfl))⟩,
  f25 := ⟨Tryz.f83.name, by decide, Tryz.func83.trans (congrArg some (by kernel_rfl))⟩,
  f26 := ⟨Tryz.f84.name, by decide, Tryz.func84.trans (congrArg some (by kernel_rfl))⟩,
  f27 := ⟨Tryz.f85.name, by decide, Tryz.func85.trans (congrArg some (by kernel_rfl))⟩,
  f28 := ⟨Tryz.f86.name, by decide, Tryz.func86.trans (congrArg some (by kernel_rfl))⟩,
  f29 := ⟨Tryz.f87.name, by decide, Tryz.func87.trans (congrArg some (by kernel_rfl))⟩,
  f31 := Tryz.func108.trans (congrArg some (by kernel_rfl)),
  f32 := Tryz.func109.trans (congrArg some (by kernel_rfl)),
  f36 := ⟨Tryz.f107.name, by decide, Tryz.func107.trans (congrArg some (by kernel_rfl))⟩,
  f37 := ⟨Tryz.f110.name, by decide, Tryz.func110.trans (congrArg some (by kernel_rfl))⟩,
  f38 := ⟨Tryz.f111.name, by decide, Tryz.func111.trans (congrArg some (by kernel_rfl))⟩,
  f39 := ⟨Tryz.f112.name, by decide, Tryz.func112.trans (congrArg some (by kernel_rfl))⟩,
  f41 := ⟨Tryz.f122.name, by decide, Tryz.func122.trans (congrArg some (by kernel_rfl))⟩,
  t0 := Tryz.underlying0,
  a0 := Tryz.isAgg0,
  z0 := Tryz.sizeOf0,
  v0 := Tryz.zeroValue0,
  t3 := Tryz.underlying3,
  a3 := Tryz.isAgg3,
  z3 := Tryz.sizeOf3,
  v3 := Tryz.zeroValue3,
  t4 := Tryz.underlying4,
  a4 := Tryz.isAgg4,
  z4 := Tryz.sizeOf4,
  v4 := Tryz.zeroValue4,
  t5 := Tryz.underlying5,
  a5 := Tryz.isAgg5,
  z5 := Tryz.sizeOf5,
  v5 := Tryz.zeroValue5,
  t9 := Tryz.underlying9,
  a9 := Tryz.isAgg9,
  z9 := Tryz.sizeOf9,
  v9 := Tryz.zeroValue9,
  t26 := Tryz.underlying55,
  a26 := Tryz.isAgg55,
  z26 := Tryz.sizeOf55,
  v26 := Tryz.zeroValue55,
  t27 := Tryz.underlying55,
  a27 := Tryz.isAgg55,
  z27 := Tryz.sizeOf55,
  v27 := Tryz.zeroValue55,
  t29 := Tryz.underlying9,
  a29 := Tryz.isAgg9,
  z29 := Tryz.sizeOf9,
  v29 := Tryz.zeroValue9,
  t32 := Tryz.underlying98,
  a32 := Tryz.isAgg98,
  z32 := Tryz.sizeOf98,
  v32 := Tryz.zeroValue98,
  t35 := Tryz.underlying129,
  a35 := Tryz.isAgg129,
  z35 := Tryz.sizeOf129,
  v35 := Tryz.zeroValue129,
  t36 := Tryz.underlying130,
  a36 := Tryz.isAgg130,
  z36 := Tryz.sizeOf130,
  v36 := Tryz.zeroValue130,
  t41 := Tryz.underlying135,
  a41 := Tryz.isAgg135,
  z41 := Tryz.sizeOf135,
  v41 := Tryz.zeroValue135,
  t44 := Tryz.underlying57,
  a44 := Tryz.isAgg57,
  z44 := Tryz.sizeOf57,
  v44 := Tryz.zeroValue57,
  t46 := Tryz.underlying116,
  a46 := Tryz.isAgg116,
  z46 := Tryz.sizeOf116,
  v46 := Tryz.zeroValue116,
  t53 := Tryz.underlying154,
  a53 := Tryz.isAgg154,
  z53 := Tryz.sizeOf154,
  v53 := Tryz.zeroValue154,
  t57 := Tryz.underlying158,
  a57 := Tryz.isAgg158,
  z57 := Tryz.sizeOf158,
  v57 := Tryz.zeroValue158,
  t63 := Tryz.underlying167,
  a63 := Tryz.isAgg167,
  z63 := Tryz.sizeOf167,
  v63 := Tryz.zeroValue167,
  t64 := Tryz.underlying168,
  a64 := Tryz.isAgg168,
  z64 := Tryz.sizeOf168,
  v64 := Tryz.zeroValue168 }
end Go.Proofs.YtjemnkijoiehmaaGreatDoor
end

section
/- The names of all files, sorted. -/
namespace Go.Proofs.YtjemnkijoiehmaaGreatDoor
open Go.RowKit Go.Maps Go.Sort Go.Shelf
variable {Xm : Nat → Prop}
theorem sortsS (m : Nat) : AnyZ.SortsIn Tryz.prog laySorted_ren Fence.wide m :=
  ⟨fun blk off cap ss W hH hblk hsz => callsIn_wide.2 (AnyM.slices_Sort_string laySortS blk off cap ss W hH hblk hsz),
   fun p cap W => callsIn_wide.2 (AnyM.slices_Sort_string_none laySortS p cap W)⟩
theorem names_sorted {l : Fl} (hs : SortF l) {ss : List Bs} (h : ss.Perm (l.map (·.1))) : ss.mergeSort (fun x y => decide (x ≤ y)) = l.map (·.1) := by
  refine (mergeSort_of_perm h).trans (List.mergeSort_of_pairwise ?_)
  refine List.pairwise_map.2 (List.Pairwise.imp ?_ hs)
  intro a b hab
  exact decide_eq_true (List.le_of_lt hab)
set_option maxHeartbeats 1000000 in
theorem names_some {w : World} {B p : Nat} {A : Dk} {ms : Option Nat} {lv : Value} {a : Nat} (h : DA Xm w B p A (some a) ms lv) (hd : A.dead = false) (hn : A.now.length ≤ 1000000) : Calls Tryz.prog 17 #[.pointer (some ⟨p, 0, none⟩)] w fun e w' => ∃ v, e = .returned v ∧ w'.ownsRow w.heap.size 9 1 v A.now.length ((A.now.map (·.1)).map encStr) ∧ Below w.heap.size w w' := by
  obtain ⟨c0, _, _, _, _, _⟩ := h.cells
  have hDe := dead_any h
  rw [hd] at hDe
  obtain ⟨hs, D0, ⟨nn, hown⟩, hat⟩ : FMap w a A.now := h.now
  have hperm := keys_perm hs hown (fun k => (hat k).1)
  have hsz := size_is hs hown (fun k => (hat k).1)
  have HP : Hid (∀ ss : List Bs, ss.Perm (strKeys D0) → ss.mergeSort (fun x y => decide (x ≤ y)) = A.now.map (·.1) ∧ ss.length = A.now.length) := fun ss hss => ⟨names_sorted hs (hss.trans hperm.symm), by rw [(hss.trans hperm.symm).length_eq, List.length_map]⟩
  refine (callsIn_wide (n := 6)).1 ?_
  have hbl := hown.lt
  have hseq : SeqGives Fence.wide 2 Tryz.prog 44 #[.pointer (some ⟨w.heap.size, 0, none⟩)] encStr (fun ss => ss.Perm (strKeys D0)) (Maps.size D0) (w.alloc (.cells #[.map (some a)] 50)) :=
    AnyZ.keys_gives (ρ := layKeys_ren) { layKeys with } Fence.wide _ trivial rfl (by omega) w.heap.size a nn D0 _ (by simp) (by simp) (by
      obtain ⟨es, clock, hb, Ft, hs, hD⟩ := hown
      exact ⟨es, clock, (Below.heap_alloc _ _ a hbl).trans hb, Ft, hs, hD⟩)
  have cK : ∀ mb W, CallsIn Fence.wide 5 Tryz.prog 27 #[.map mb] W fun e w' => e = .returned (.func (.func 44) #[] #[.pointer (some ⟨W.heap.size, 0, none⟩)]) ∧ w' = W.alloc (.cells #[.map mb] 50) := fun mb W => AnyZ.keys_in layKeys Fence.wide 5 trivial rfl mb W
  have cS := AnyZ.sorted_in laySorted Fence.wide 5 trivial trivial trivial trivial rfl (by omega) (sortsS _) (enters_of Tryz.func43 (by kernel_rfl) rfl) 44 #[.pointer (some ⟨w.heap.size, 0, none⟩)] trivial (enters_of Tryz.func44 (by kernel_rfl) rfl) _ _ (by rw [hsz]; unfold maxLen; omega) (by rw [hsz]; omega) _ hseq
  change CallsIn _ _ Tryz.prog 26 _ _ _ at cS
  have cD : CallsIn Fence.wide 5 Tryz.prog 25 #[.pointer (some ⟨p, 0, none⟩)] w fun r w' => r = .returned (.bool false) ∧ w' = w := callsIn_wide.2 hDe
  have hfK : Fence.wide.fn 27 := trivial
  have hfS : Fence.wide.fn 26 := trivial
  have hfD : Fence.wide.fn 25 := trivial
  clear hperm hsz hat hown hs hDe h
  refine callsIn_of_wp Tryz.func17 rfl trivial ?_ rfl
  simp only [Tryz.ntmps17, List.size_toArray, List.length_cons, List.length_nil, Nat.reduceAdd, Nat.reduceSub, Array.replicate_succ, Array.replicate_zero, List.push_toArray, List.append_toArray, List.nil_append, List.cons_append]
  gi_wp2_with (first
    | (gi_at_call 25; refine cD.mono ?_; rintro e w ⟨rfl, rfl⟩)
    | (gi_at_call 27; refine (cK _ _).mono ?_; rintro e w' ⟨rfl, rfl⟩)
    | (gi_at_call 26; refine cS.mono ?_; rintro e w' ⟨v, ss, rfl, hS, hrow, hnil, hb⟩))
  go_ret
  obtain ⟨e1, e2⟩ := HP.out ss hS
  rw [e1, e2] at hrow
  exact ⟨v, rfl, ownsRow_base_a hrow (by simp), ((Below.refl _ w).alloc (Nat.le_refl _) _).trans (hb.mono (by simp))⟩
set_option maxHeartbeats 1000000 in
theorem names_nil {w : World} {B p : Nat} {A : Dk} {ms : Option Nat} {lv : Value} (h : DA Xm w B p A none ms lv) (hd : A.dead = false) : Calls Tryz.prog 17 #[.pointer (some ⟨p, 0, none⟩)] w fun e w' => e = .returned (.slice none 0 0) ∧ Below w.heap.size w w' := by
  obtain ⟨c0, _, _, _, _, _⟩ := h.cells
  have hDe := dead_any h
  rw [hd] at hDe
  refine (callsIn_wide (n := 6)).1 ?_
  have hseq : SeqGives Fence.wide 2 Tryz.prog 44 #[.pointer (some ⟨w.heap.size, 0, none⟩)] encStr (fun ss : List (List UInt8) => ss = []) 0 (w.alloc (.cells #[.map none] 50)) :=
    AnyZ.keys_gives_nil (ρ := layKeys_ren) { layKeys with } Fence.wide _ trivial rfl w.heap.size _ (by simp) (by simp)
  have cK : ∀ mb W, CallsIn Fence.wide 5 Tryz.prog 27 #[.map mb] W fun e w' => e = .returned (.func (.func 44) #[] #[.pointer (some ⟨W.heap.size, 0, none⟩)]) ∧ w' = W.alloc (.cells #[.map mb] 50) := fun mb W => AnyZ.keys_in layKeys Fence.wide 5 trivial rfl mb W
  have cS := AnyZ.sorted_in laySorted Fence.wide 5 trivial trivial trivial trivial rfl (by omega) (sortsS _) (enters_of Tryz.func43 (by kernel_rfl) rfl) 44 #[.pointer (some ⟨w.heap.size, 0, none⟩)] trivial (enters_of Tryz.func44 (by kernel_rfl) rfl) _ 0 (Nat.zero_le _) (by omega) _ hseq
  change CallsIn _ _ Tryz.prog 26 _ _ _ at cS
  have cD : CallsIn Fence.wide 5 Tryz.prog 25 #[.pointer (some ⟨p, 0, none⟩)] w fun r w' => r = .returned (.bool false) ∧ w' = w := callsIn_wide.2 hDe
  have hfK : Fence.wide.fn 27 := trivial
  have hfS : Fence.wide.fn 26 := trivial
  have hfD : Fence.wide.fn 25 := trivial
  clear hDe h
  refine callsIn_of_wp Tryz.func17 rfl trivial ?_ rfl
  simp only [Tryz.ntmps17, List.size_toArray, List.length_cons, List.length_nil, Nat.reduceAdd, Nat.reduceSub, Array.replicate_succ, Array.replicate_zero, List.push_toArray, List.append_toArray, List.nil_append, List.cons_append]
  gi_wp2_with (first
    | (gi_at_call 25; refine cD.mono ?_; rintro e w ⟨rfl, rfl⟩)
    | (gi_at_call 27; refine (cK _ _).mono ?_; rintro e w' ⟨rfl, rfl⟩)
    | (gi_at_call 26; refine cS.mono ?_; rintro e w' ⟨v, ss, rfl, rfl, hrow, hnil, hb⟩; obtain rfl : v = .slice none 0 0 := hnil.2 rfl))
  go_ret
  exact ⟨rfl, ((Below.refl _ w).alloc (Nat.le_refl _) _).trans (hb.mono (by simp))⟩
theorem names_any {w : World} {B p : Nat} {A : Dk} {mn ms : Option Nat} {lv : Value} (h : DA Xm w B p A mn ms lv) (hd : A.dead = false) (hn : A.now.length ≤ 1000000) : Calls Tryz.prog 17 #[.pointer (some ⟨p, 0, none⟩)] w fun e w' => ∃ v, e = .returned v ∧ w'.ownsRow w.heap.size 9 1 v A.now.length ((A.now.map (·.1)).map encStr) ∧ Below w.heap.size w w' := by
  cases mn with
  | some a => exact names_some h hd hn
  | none =>
    have e : A.now = [] := h.now
    refine (names_nil h hd).mono ?_
    rintro r w' ⟨rfl, hb⟩
    exact ⟨_, rfl, by rw [e]; exact ⟨rfl, .inl ⟨rfl, rfl⟩⟩, hb⟩
end Go.Proofs.YtjemnkijoiehmaaGreatDoor
end
