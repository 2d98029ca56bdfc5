/- plan: New, Life, Renew, Drop of leases. -/
import Derived.Test.YtipopaicehimeaaPlMap
import Derived.Test.YtipopaicehimeaaPlF2
import Derived.WalkSpells
namespace Go.Proofs.Ytipopaicehimeaa
open Go.RowKit Go.Maps
attribute [local go_sem] Oper.semAt_some
theorem lnew_bad (n : Int) (w : World) (h : n < 1 ∨ 1048576 < n) : Calls Try.prog 12 #[.int .i64 n] w fun r w' => r = .returned (.tuple #[.pointer none, .int .i64 1]) ∧ w' = w := by
  rcases h with h | h
  · go_enter Try.func12, Try.ntmps12
    go_wp2
    go_ret2
    exact ⟨rfl, rfl⟩
  · by_cases h1 : n < 1
    · go_enter Try.func12, Try.ntmps12
      go_wp2
      go_ret2
      exact ⟨rfl, rfl⟩
    · go_enter Try.func12, Try.ntmps12
      go_wp2
      go_ret2
      exact ⟨rfl, rfl⟩
theorem lnew_ok (n : Int) (w : World) (h1 : 1 ≤ n) (h2 : n ≤ 1048576) : Calls Try.prog 12 #[.int .i64 n] w fun r w' => r = .returned (.tuple #[.pointer (some ⟨w.heap.size, 0, none⟩), .int .i64 0]) ∧ LA w' w.heap.size w.heap.size n none [] ∧ Below w.heap.size w w' := by
  have hn1 : ¬ n < 1 := by omega
  have hn2 : ¬ 1048576 < n := by omega
  go_enter Try.func12, Try.ntmps12
  go_wp2
  go_ret2
  exact ⟨rfl, ⟨heap_alloc_new _ _, Nat.le_refl _, rfl⟩, gone_new _ _⟩
theorem gbox2 {W : World} {q : Nat} {t : TypeId} {x0 x1 : Value} (h : W.heap[q]? = some (.cells #[x0, x1] t (0, 0))) : W.cell? ⟨q, 0, none⟩ = some x0 ∧ W.cell? ⟨q, 1, none⟩ = some x1 ∧ W.frozen? ⟨q, 0, none⟩ = false ∧ W.frozen? ⟨q, 1, none⟩ = false := by
  refine ⟨?_, ?_, ?_, ?_⟩ <;> simp [World.cell?, World.frozen?, h]
/-- What is told of a lease. -/
def lzD (g : Option Lz) : Lz := g.getD ⟨0, 0, 0⟩
theorem lv_getD (g : Option Lz) : (g.map lv).getD (.agg #[.int .i64 0, .int .i64 0]) = .agg #[.int .i64 (lzD g).l, .int .i64 (lzD g).t] := by cases g <;> rfl
set_option maxRecDepth 100000 in
theorem llife {w : World} {B p : Nat} {long : Int} {mb : Option Nat} {M : List Lz} (h : LA w B p long mb M) {x : Int} (hx : I6 x) : Calls Try.prog 15 #[.pointer (some ⟨p, 0, none⟩), .int .i64 x] w fun r w' => r = .returned (.tuple #[.int .i64 (lzD (getL M x)).l, .bool (getL M x).isSome]) ∧ Below w.heap.size w w' := by
  have c1 := h.c1
  have hlk := h.look hx
  rw [lv_getD] at hlk
  generalize lzD (getL M x) = y at hlk ⊢
  generalize (getL M x).isSome = bb at hlk ⊢
  clear h
  go_enter Try.func15, Try.ntmps15
  go_wp2
  go_ret2
  exact ⟨rfl, gone_new _ _⟩
set_option maxRecDepth 100000 in
theorem lrenew_stale {w : World} {B p : Nat} {long : Int} {mb : Option Nat} {M : List Lz} (h : LA w B p long mb M) {x l t : Int} (hx : I6 x) {z : Lz} (hg : getL M x = some z) (hs : l < z.l ∨ t < z.t) : Calls Try.prog 14 #[.pointer (some ⟨p, 0, none⟩), .int .i64 x, .int .i64 l, .int .i64 t] w fun r w' => r = .returned (.bool false) ∧ Below w.heap.size w w' := by
  have c1 := h.c1
  have hlk := h.look hx
  rw [hg] at hlk
  simp only [Option.map_some, Option.getD_some, lv, Option.isSome_some] at hlk
  clear h hg
  by_cases h1 : l < z.l
  · go_enter Try.func14, Try.ntmps14
    go_wp2
    go_ret
    exact ⟨rfl, gone_new _ _⟩
  · have h2 : t < z.t := by omega
    have h3 : z.l ≤ l := by omega
    go_enter Try.func14, Try.ntmps14
    go_wp2
    go_ret
    exact ⟨rfl, gone_new _ _⟩
/-- What a call on leases leaves. -/
def LTo (w w' : World) (B p : Nat) (long : Int) (mb : Option Nat) (M : List Lz) : Prop := ∃ mb', LA w' B p long mb' M ∧ Fr w w' (fun k => k = p ∨ mb = some k)
theorem LTo.same {w w' : World} {B p : Nat} {long : Int} {mb : Option Nat} {M : List Lz} (h : LA w B p long mb M) (hb : Below w.heap.size w w') : LTo w w' B p long mb M := ⟨mb, h.new hb, Fr.ofBelow hb _⟩
set_option maxRecDepth 100000 in
set_option maxHeartbeats 2000000 in
theorem lrenew_put {w : World} {B p : Nat} {long : Int} {mb : Option Nat} {M : List Lz} (h : LA w B p long mb M) (hl : M.length < 1000000) {y : Lz} (hy : y.ok) (hns : ∀ z, getL M y.k = some z → z.l ≤ y.l ∧ z.t ≤ y.t) {M' : List Lz} (h1 : (M'.map (·.k)).Nodup) (h2 : ∀ z ∈ M', z.ok) (h3 : ∀ x, getL M' x = if x = y.k then some y else getL M x) :
    Calls Try.prog 14 #[.pointer (some ⟨p, 0, none⟩), .int .i64 y.k, .int .i64 y.l, .int .i64 y.t] w fun r w' => r = .returned (.bool (!(getL M y.k).isSome || (lzD (getL M y.k)).l != y.l)) ∧ LTo w w' B p long mb M' := by
  have HA : Hid (LA w B p long mb M) := h
  have c1 := h.c1
  have f1 := h.f1
  have hlk := h.look hy.1
  have HNs : Hid (∀ z, getL M y.k = some z → z.l ≤ y.l ∧ z.t ≤ y.t) := hns
  have HP : Hid (∀ (W : World) b, LMap W b M → ∃ w', (Instr.mapUpdate 48 (.map (some b)) (.int .i64 y.k) (lv y)).run Try.prog W = .ok () w' ∧ LMap w' b M' ∧ Fr W w' (fun k => k = b)) := fun W b hM => hM.put hl hy h1 h2 h3
  obtain ⟨g, hg⟩ : ∃ g, getL M y.k = g := ⟨_, rfl⟩
  rw [hg] at hlk HNs ⊢
  obtain ⟨k, l, t⟩ := y
  simp only [lv] at HP hlk HNs ⊢
  have hmm := @run_makeMap Try.prog
  have hq := fun (w : World) (r : Option Nat) => Go.run_eql_map_nil (P := Try.prog) w 48 _ _ r Try.underlying48
  cases mb with
  | none =>
    have hM : M = [] := h.mp
    subst hM
    cases hg
    simp only [getL, List.find?_nil, Option.map_none, Option.getD_none, Option.isSome_none] at hlk ⊢
    clear h h1 h2 h3 hns HNs
    go_enter Try.func14, Try.ntmps14
    go_upto_region 4 with (fail)
    generalize hW : World.alloc _ _ = W
    have bW : Below w.heap.size w W := by rw [← hW]; exact gone_new _ _
    have HA1 : Hid (LA W B p long none []) := HA.out.new bW
    have HB1 : Hid (Below w.heap.size w W) := bW
    have c1 := HA1.out.c1
    have f1 := HA1.out.f1
    clear hW bW hlk
    generalize w.heap.size = q
    go_upto_region 7 with (fail)
    obtain ⟨W1, hW1⟩ : ∃ W1, W.alloc (.map #[] 0) = W1 := ⟨_, rfl⟩
    have b1 : Below W.heap.size W W1 := by rw [← hW1]; exact gone_new _ _
    have HA2 : Hid (LA W1 B p long none []) := HA1.out.new b1
    have c1 := HA2.out.c1
    have f1 := HA2.out.f1
    have HM2 : Hid (LMap W1 W.heap.size []) := by show LMap _ _ _; rw [← hW1]; exact LMap.made W
    have HB2 : Hid (Below w.heap.size w W1) := HB1.out.trans (b1.mono HB1.out.size)
    have HX : Hid (p < W.heap.size) := HA1.out.lt
    have HX2 : Hid (w.heap.size ≤ W.heap.size) := HB1.out.size
    clear b1
    go_upto_region 8 with (fail)
    generalize hW2 : World.setCell _ _ _ = W2
    have hF2 : Fr W1 W2 (fun k => k = p) := by rw [← hW2]; exact Fr.setCell (S := fun k => k = p) _ ⟨p, 1, none⟩ _ rfl
    have HBx : Hid (W2.heap[p]? = some (.cells #[.int .i64 long, .map (some W.heap.size)] 50 (0, 0))) := by
      show _ = _
      rw [← hW2]
      exact gblk_set _ HA2.out.box
    have HM3 : Hid (LMap W2 W.heap.size []) := HM2.out.kept hF2 (fun e => by have := HX.out; omega)
    have HF2 : Hid (Fr W1 W2 (fun k => k = p)) := hF2
    have HLo : Hid (B ≤ p) := HA.out.low
    have HBs : Hid (B ≤ W.heap.size) := HA1.out.base
    clear hW2 hF2 hW1 c1 f1 hmm hq
    generalize W.heap.size = b at HBx HM3 HX HX2 HBs ⊢
    have c2 : W2.cell? ⟨p, 1, none⟩ = some (.map (some b)) := by simp [World.cell?, HBx.out]
    obtain ⟨W3, hrun, hM4, hF4⟩ := HP.out W2 b HM3.out
    have HM4 : Hid (LMap W3 b M') := hM4
    have HF4 : Hid (Fr W2 W3 (fun k => k = b)) := hF4
    clear hM4 hF4
    go_wp2
    go_ret
    refine ⟨rfl, some b, ⟨(HF4.out.block p (glt_blk HBx.out) (fun e => by have := HX.out; omega)).trans HBx.out, HLo.out, HBs.out, by have := HX.out; omega, HM4.out⟩, ?_⟩
    have f1 : Fr w W1 (fun k => k = p ∨ none = some k) := Fr.ofBelow HB2.out _
    exact (f1.trans HF2.out (fun k _ e => .inl e)).trans HF4.out (fun k hk e => by have := HX2.out; omega)
  | some b =>
    obtain ⟨hBb, hbp, hM⟩ := h.mp
    have HM : Hid (LMap w b M) := hM
    have HBb : Hid (B ≤ b ∧ b ≠ p) := ⟨hBb, hbp⟩
    have HBx0 : Hid (w.heap[p]? = some (.cells #[.int .i64 long, .map (some b)] 50 (0, 0))) := h.box
    have HLo : Hid (B ≤ p) := h.low
    clear h h1 h2 h3 hns hM hBb hbp hg hmm
    cases g with
    | none =>
      simp only [Option.map_none, Option.getD_none, Option.isSome_none] at hlk ⊢
      clear HNs
      go_enter Try.func14, Try.ntmps14
      go_upto_region 4 with (fail)
      generalize hW : World.alloc _ _ = W
      have bW : Below w.heap.size w W := by rw [← hW]; exact gone_new _ _
      have HA1 : Hid (LA W B p long (some b) M) := HA.out.new bW
      have HB1 : Hid (Below w.heap.size w W) := bW
      have c1 := HA1.out.c1
      have HM1 : Hid (LMap W b M) := HM.out.new bW
      clear hW bW hlk f1
      generalize w.heap.size = q
      obtain ⟨W3, hrun, hM4, hF4⟩ := HP.out W b HM1.out
      have HM4 : Hid (LMap W3 b M') := hM4
      have HF4 : Hid (Fr W W3 (fun k => k = b)) := hF4
      clear hM4 hF4
      go_wp2
      go_ret
      have hne := HBb.out
      refine ⟨rfl, some b, ⟨(HF4.out.block p HA1.out.lt (fun e => hne.2 e.symm)).trans HA1.out.box, HLo.out, hne.1, hne.2, HM4.out⟩, ?_⟩
      exact (Fr.ofBelow HB1.out (fun k => k = p ∨ some b = some k)).trans HF4.out (fun k hk e => .inr (by rw [e]))
    | some z =>
      simp only [Option.map_some, Option.getD_some, Option.isSome_some, lv, lzD] at hlk ⊢
      obtain ⟨hz1, hz2⟩ := HNs.out z rfl
      clear HNs
      go_enter Try.func14, Try.ntmps14
      go_upto_region 4 with (fail)
      generalize hW : World.alloc _ _ = W
      have bW : Below w.heap.size w W := by rw [← hW]; exact gone_new _ _
      have hZ : W.heap[w.heap.size]? = some (.cells #[.int .i64 z.l, .int .i64 z.t] 52 (0, 0)) := by rw [← hW]; exact heap_alloc_new _ _
      have HA1 : Hid (LA W B p long (some b) M) := HA.out.new bW
      have HB1 : Hid (Below w.heap.size w W) := bW
      have c1 := HA1.out.c1
      have HM1 : Hid (LMap W b M) := HM.out.new bW
      have HX : Hid (b < w.heap.size) := HM.out.lt
      clear hW bW hlk f1
      generalize w.heap.size = q at hZ HX ⊢
      obtain ⟨W3, hrun, hM4, hF4⟩ := HP.out W b HM1.out
      have HM4 : Hid (LMap W3 b M') := hM4
      have HF4 : Hid (Fr W W3 (fun k => k = b)) := hF4
      have hZ3 := (hF4.block q (glt_blk hZ) (fun e => by have := HX.out; omega)).trans hZ
      obtain ⟨z0, z1, _, _⟩ := gbox2 hZ
      obtain ⟨z2, _, _, _⟩ := gbox2 hZ3
      clear hM4 hF4 hZ hZ3
      go_wp2
      go_ret
      have hne := HBb.out
      refine ⟨by simp, some b, ⟨(HF4.out.block p HA1.out.lt (fun e => hne.2 e.symm)).trans HA1.out.box, HLo.out, hne.1, hne.2, HM4.out⟩, ?_⟩
      exact (Fr.ofBelow HB1.out (fun k => k = p ∨ some b = some k)).trans HF4.out (fun k hk e => .inr (by rw [e]))
end Go.Proofs.Ytipopaicehimeaa
