/- Do. -/
import Derived.Test.YtdnakakichblgaaSsLook
import Derived.Test.YtdnakakichblgaaSsTell
namespace Go.Proofs.Ytdnakakichblgaa
open Go.RowKit
attribute [local go_sem] Oper.semAt_some
theorem sdo_nil (k n : Int) (f : Value) (w : World) : Calls Try.prog 10 #[.pointer none, .int .i64 k, .int .i64 n, f] w fun r w' => r = .returned (.tuple #[.string (str []), .bool false, .int .i64 1]) ∧ w' = w := by
  go_enter Try.func10, Try.ntmps10
  go_wp2_with (go_at_call 9; refine (slook_nil _ _ _).mono ?_; rintro r w1 ⟨rfl, rfl⟩)
  go_ret3
  exact ⟨rfl, rfl⟩
set_option maxRecDepth 100000 in
set_option maxHeartbeats 2000000 in
/-- A request that is not done. -/
theorem sdo_old {w : World} {B p : Nat} {v : Value} {L : List Req} (h : TA w B p v L) (hT : Tab L) {k n : Int} (hn : n ≤ 9223372036854775807) (hf : ¬ freshR L k n) (f : Value) : Calls Try.prog 10 #[.pointer (some ⟨p, 0, none⟩), .int .i64 k, .int .i64 n, f] w fun r w' => r = .returned (.tuple #[.string (lookR L k n).1, .bool false, .int .i64 (lookR L k n).2.2]) ∧ Below w.heap.size w w' := by
  have hL := slook h (by have := hT.few; omega) hT.rise k n hn
  have hX : (lookR L k n).2.1 = true ∨ (lookR L k n).2.1 = false ∧ (lookR L k n).2.2 ≠ 0 := by
    unfold freshR at hf
    cases e : (lookR L k n).2.1
    · right
      exact ⟨rfl, fun e2 => hf ⟨e, e2⟩⟩
    · exact .inl rfl
  generalize lookR L k n = t at hL hX ⊢
  obtain ⟨t1, t2, t3⟩ := t
  clear h hT hf
  simp only at hL hX ⊢
  rcases hX with rfl | ⟨rfl, hx⟩
  · go_enter Try.func10, Try.ntmps10
    go_wp2_with (go_at_call 9; refine hL.mono ?_; rintro r w1 ⟨rfl, hb1⟩)
    go_ret3
    exact ⟨rfl, hb1⟩
  · have hx' : ¬ t3 = 0 := hx
    clear hx
    go_enter Try.func10, Try.ntmps10
    go_wp2_with (go_at_call 9; refine hL.mono ?_; rintro r w1 ⟨rfl, hb1⟩)
    go_ret3
    exact ⟨rfl, hb1⟩
theorem nilf : ∀ W : World, (binOp BinOp.eql 35 .nilFunc .nilFunc).run Try.prog W = .ok (.bool true) W := fun _ => by kernel_rfl
/-- Nothing to be done. -/
theorem sdo_none {w : World} {B p : Nat} {v : Value} {L : List Req} (h : TA w B p v L) (hT : Tab L) {k n : Int} (hn : n ≤ 9223372036854775807) (hf : freshR L k n) : Calls Try.prog 10 #[.pointer (some ⟨p, 0, none⟩), .int .i64 k, .int .i64 n, .nilFunc] w fun r w' => r = .returned (.tuple #[.string (str []), .bool false, .int .i64 1]) ∧ Below w.heap.size w w' := by
  have hL := slook h (by have := hT.few; omega) hT.rise k n hn
  have hnil := nilf
  unfold freshR at hf
  generalize lookR L k n = t at hL hf
  obtain ⟨t1, t2, t3⟩ := t
  clear h hT
  simp only at hL hf
  obtain ⟨rfl, rfl⟩ := hf
  go_enter Try.func10, Try.ntmps10
  go_wp2_with (go_at_call 9; refine hL.mono ?_; rintro r w1 ⟨rfl, hb1⟩)
  go_ret3
  exact ⟨rfl, hb1⟩
set_option maxRecDepth 100000 in
set_option maxHeartbeats 4000000 in
/-- A request that is done. -/
theorem sdo_fresh {w : World} {B p : Nat} {v : Value} {L : List Req} (h : TA w B p v L) (hT : Tab L) {k n : Int} (hn : n ≤ 9223372036854775807) (hf : freshR L k n) {g : Nat} {cb : Array Value} {s : ByteArray} (hD : ∀ W, Fr w W (fun k => k = p ∨ v.ownBlock = some k) → Tells g cb s W) :
    Calls Try.prog 10 #[.pointer (some ⟨p, 0, none⟩), .int .i64 k, .int .i64 n, .func (.func g) #[] cb] w fun r w' => r = .returned (.tuple #[.string s, .bool true, .int .i64 0]) ∧ TTo w w' B p v (putR L ⟨k, n, s⟩) := by
  have hL := slook h (by have := hT.few; omega) hT.rise k n hn
  have HT : Hid (TA w B p v L) := h
  have HTab : Hid (Tab L) := hT
  have HF : Hid (freshR L k n) := hf
  have HD : Hid (∀ W, Fr w W (fun k => k = p ∨ v.ownBlock = some k) → Tells g cb s W) := hD
  have HN : Hid (n ≠ 0) := by show n ≠ 0; rcases fresh_is hf with h | h <;> omega
  have hnil : ∀ W : World, (binOp BinOp.eql 35 (.func (.func g) #[] cb) .nilFunc).run Try.prog W = .ok (.bool false) W := fun _ => rfl
  unfold freshR at hf
  generalize lookR L k n = t at hL hf
  obtain ⟨t1, t2, t3⟩ := t
  clear h hT hD
  simp only at hL hf
  obtain ⟨rfl, rfl⟩ := hf
  go_enter Try.func10, Try.ntmps10
  go_upto_region 6 with (go_at_call 9; refine hL.mono ?_; rintro r w1 ⟨rfl, hb1⟩)
  have HT1 : Hid (TA w1 B p v L) := HT.out.new hb1
  have HB1 : Hid (Below w.heap.size w w1) := hb1
  have HLn : Hid (L.length ≤ 1000000) := by show _ ≤ _; have := HTab.out.few; omega
  clear hb1 hL
  have hF := slast k HT1.out HLn.out HTab.out.rise
  go_upto_region 7 with (go_at_call 30; refine hF.mono ?_; rintro r w2 ⟨rfl, hb2⟩)
  generalize hW3 : World.alloc _ _ = w3
  have hB3 : Below w2.heap.size w2 w3 := by rw [← hW3]; exact sone_new _ _
  have HB3 : Hid (Below w.heap.size w w3) := HB1.out.trans ((hb2.mono HB1.out.size).trans (hB3.mono (by have := HB1.out.size; have := hb2.size; omega)))
  have HT3 : Hid (TA w3 B p v L) := HT.out.new HB3.out
  clear hW3 hB3 hb2 hF hnil
  generalize w2.heap.size = q14
  have hK := skeep HT3.out HLn.out HTab.out.rise (a := ⟨k, n, str []⟩) HN.out
  go_upto_region 8 with (go_at_call 31; refine hK.mono ?_; rintro r w4 ⟨rfl, hk4⟩)
  obtain ⟨v4, hT4, hF4, hR4⟩ := hk4
  have HT4 : Hid (TA w4 B p v4 (putR L ⟨k, n, str []⟩)) := hT4
  have HF4 : Hid (Fr w w4 (fun k => k = p ∨ v.ownBlock = some k)) := (Fr.ofBelow HB3.out _).trans hF4 (fun _ _ h => h)
  have HR4 : Hid (Row w v v4) := by
    show Row _ _ _
    rcases hR4 with hR4 | ⟨gg, h1, h2⟩
    · exact .inl hR4
    · exact .inr ⟨gg, h1, Nat.le_trans HB3.out.size h2⟩
  have HTab4 : Hid (Tab (putR L ⟨k, n, str []⟩)) := HTab.out.put _ HF.out
  have HL4 : Hid (lastR (putR L ⟨k, n, str []⟩) k = ⟨k, n, str []⟩) := put_last HTab.out.rise ⟨k, n, str []⟩
  have HP4 : Hid (putR (putR L ⟨k, n, str []⟩) ⟨k, n, s⟩ = putR L ⟨k, n, s⟩) := put_put HTab.out.rise rfl
  have hTl := stell (HD.out w4 HF4.out)
  clear hT4 hF4 hR4 hK
  go_upto_region 9 with (go_at_call 32; refine hTl.mono ?_; rintro r w5 ⟨rfl, hb5⟩)
  have HB5 : Hid (Below w4.heap.size w4 w5) := hb5
  clear hb5 hTl
  go_upto_region 10 with (fail)
  generalize hW6 : World.alloc _ _ = w6
  have hB6 : Below w5.heap.size w5 w6 := by rw [← hW6]; exact sone_new _ _
  have hZ6 : w6.heap[w5.heap.size]? = some (.cells #[.int .i64 k, .int .i64 n, .string s] 60 (0, 0)) := by rw [← hW6]; exact heap_alloc_new _ _
  have HB6 : Hid (Below w4.heap.size w4 w6) := HB5.out.trans (hB6.mono HB5.out.size)
  clear hW6 hB6
  generalize w5.heap.size = q16 at hZ6 ⊢
  have HZ6 : Hid (w6.heap[q16]? = some (.cells #[.int .i64 k, .int .i64 n, .string s] 60 (0, 0))) := hZ6
  have HT6 : Hid (TA w6 B p v4 (putR L ⟨k, n, str []⟩)) := HT4.out.new HB6.out
  clear hZ6
  have HLn4 : Hid ((putR L ⟨k, n, str []⟩).length ≤ 1000000) := by show _ ≤ _; have := HTab4.out.few; omega
  have hS := sseq k HT6.out HLn4.out HTab4.out.rise
  rw [HL4.out] at hS
  simp only at hS
  go_upto_region 13 with (go_at_call 19; refine hS.mono ?_; rintro r w7 ⟨rfl, hb7⟩)
  have HB7 : Hid (Below w4.heap.size w4 w7) := HB6.out.trans (hb7.mono HB6.out.size)
  have HT7 : Hid (TA w7 B p v4 (putR L ⟨k, n, str []⟩)) := HT4.out.new HB7.out
  have HZ7 : Hid (w7.heap[q16]? = some (.cells #[.int .i64 k, .int .i64 n, .string s] 60 (0, 0))) := (hb7.block q16 (slt_blk HZ6.out)).trans HZ6.out
  obtain ⟨z0, z1, z2, _, _, _⟩ := sbox3 HZ7.out
  clear hS hb7
  have hK2 := skeep HT7.out HLn4.out HTab4.out.rise (a := ⟨k, n, s⟩) HN.out
  rw [HP4.out] at hK2
  go_wp2_with (go_at_call 31; refine hK2.mono ?_; rintro r w8 ⟨rfl, hk8⟩)
  go_ret3
  refine ⟨rfl, ?_⟩
  have f7 : Fr w w7 (fun k => k = p ∨ v.ownBlock = some k) := HF4.out.trans (Fr.ofBelow HB7.out (fun k => k = p ∨ v.ownBlock = some k)) (fun _ _ h => h)
  exact TTo.then f7 HR4.out hk8
end Go.Proofs.Ytdnakakichblgaa
