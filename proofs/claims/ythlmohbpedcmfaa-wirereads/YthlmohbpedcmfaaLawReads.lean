/- Proved: for every text s and every list of acts, cohortlaw01.WireReads returns true, and its arguments read as they did. No condition. -/
import Derived.Test.YthlmohbpedcmfaaAwakeW
import Derived.Test.YthlmohbpedcmfaaOneW
import Derived.Test.YthlmohbpedcmfaaActs
import Derived.Deep.DeepCutAuto
import Derived.Deep.RegionHeld3
namespace Go.Proofs.Ythlmohbpedcmfaa
open Go.RowKit
theorem mblk {w : World} {g : Nat} {a b c : Value} (h : w.heap[g]? = some (.cells #[a, b, c] 41 (0, 0))) : w.cell? ⟨g, 0, none⟩ = some a ∧ w.cell? ⟨g, 1, none⟩ = some b ∧ w.cell? ⟨g, 2, none⟩ = some c ∧ w.frozen? ⟨g, 0, none⟩ = false ∧ w.frozen? ⟨g, 1, none⟩ = false ∧ w.frozen? ⟨g, 2, none⟩ = false := by
  simp [World.cell?, World.frozen?, h]
theorem blk_set {w : World} {g i : Nat} {cs : Array Value} {t : TypeId} (v : Value) (h : w.heap[g]? = some (.cells cs t (0, 0))) : (w.setCell ⟨g, i, none⟩ v).heap[g]? = some (.cells (cs.setIfInBounds i v) t (0, 0)) := by
  have hlt := lt_of_block h
  have h' : w.heap[g] = .cells cs t (0, 0) := by simpa [Array.getElem?_eq_getElem hlt] using h
  show (w.heap.modify g _)[g]? = _
  rw [Array.getElem?_eq_getElem (by simpa using hlt), Array.getElem_modify_self, h']
  rfl
theorem mset3 {w : World} {g : Nat} {a b c : Value} (a' b' c' : Value) (h : w.heap[g]? = some (.cells #[a, b, c] 41 (0, 0))) : (((w.setCell ⟨g, 0, none⟩ a').setCell ⟨g, 1, none⟩ b').setCell ⟨g, 2, none⟩ c').heap[g]? = some (.cells #[a', b', c'] 41 (0, 0)) :=
  blk_set c' (blk_set b' (blk_set a' h))
theorem fs3 (w : World) (g : Nat) (a' b' c' : Value) : Fr w (((w.setCell ⟨g, 0, none⟩ a').setCell ⟨g, 1, none⟩ b').setCell ⟨g, 2, none⟩ c') (fun k => k = g) :=
  ((Fr.setCell (S := fun k => k = g) w ⟨g, 0, none⟩ a' rfl).trans (Fr.setCell (S := fun k => k = g) _ ⟨g, 1, none⟩ b' rfl) (fun _ _ h => h)).trans (Fr.setCell (S := fun k => k = g) _ ⟨g, 2, none⟩ c' rfl) (fun _ _ h => h)
theorem Rd.drewd {w : World} {p : Nat} {s : ByteArray} {a e : Int} (h : Rd w p s a e) : Rd w.drew p s a e := h
set_option maxRecDepth 100000 in
set_option maxHeartbeats 1000000 in
theorem law_reads (s : ByteArray) (b off cap : Nat) (L : List ActV) (w : World) (hs : s.size ≤ maxLen) (hL : L.length ≤ 35184372088832) (hact : Acts w b off L) (hn : ∀ y ∈ L, y.n ≤ 9223372036854775807) :
    Calls Try.prog 5 #[.string s, .slice (some ⟨b, off, none⟩) L.length cap] w fun e w' => e = .returned (.bool true) ∧ Below w.heap.size w w' := by
  have hs' := hs
  unfold maxLen at hs'
  go_enter Try.func5, Try.ntmps5
  go_wp2_with (first
    | (go_at_call 22; refine (newreader_any _ _).mono ?_; rintro e w1 ⟨rfl, hr1, hb1⟩)
    | (go_at_call 9; refine (awake_any _).mono ?_; rintro e w2 ⟨rfl, hb2⟩))
  have hb12 : Below w.heap.size w w2 := hb1.trans (hb2.mono hb1.size)
  have hr2 := hr1.below hb2
  have hlt2 := hr2.lt
  go_loopw [7, 8] (fun i _ wr => ∃ (k a : Nat) (e : Int), k ≤ L.length ∧ i = .int .i64 k ∧ a ≤ s.size ∧ Rd wr w.heap.size s a e ∧ wr.heap[w2.heap.size]? = some (.cells #[.string s, .int .i64 a, .int .i64 e] 41 (0, 0)) ∧ Below w.heap.size w wr) (fun i _ _ => L.length - (intOf i).toNat)
  case atStart =>
    exact ⟨0, 0, 0, Nat.zero_le _, rfl, Nat.zero_le _, hr2.kept (Fr.alloc _ _ (fun _ => False)) (fun h => h), heap_alloc_new _ _, hb12.alloc hb12.size _⟩
  case round =>
    obtain ⟨k, a, e, hk, rfl, ha, hr, hm, hbel⟩ := hrel
    by_cases hlt : k < L.length
    · obtain ⟨t0, t1, t2, t3⟩ := hact k hlt
      have hz := hbel.size
      have hbb : b < w.heap.size := World.block_lt_of_cell? _ _ t0
      have t0' := (hbel.cell (p := ⟨b, off + k * 4, none⟩) hbb).trans t0
      have t1' := (hbel.cell (p := ⟨b, off + k * 4 + 1, none⟩) hbb).trans t1
      have t2' := (hbel.cell (p := ⟨b, off + k * 4 + 2, none⟩) hbb).trans t2
      have t3' := (hbel.cell (p := ⟨b, off + k * 4 + 3, none⟩) hbb).trans t3
      have hN := hn L[k] (List.getElem_mem hlt)
      generalize L[k] = y at t0' t1' t2' t3' hN
      clear t0 t1 t2 t3
      have m0 : wr.cell? ⟨w2.heap.size, 0, none⟩ = some (.string s) := by simp [World.cell?, hm]
      have m1 : wr.cell? ⟨w2.heap.size, 1, none⟩ = some (.int .i64 a) := by simp [World.cell?, hm]
      have m2 : wr.cell? ⟨w2.heap.size, 2, none⟩ = some (.int .i64 e) := by simp [World.cell?, hm]
      have hg : w2.heap.size < wr.drew.heap.size := lt_of_block (w := wr) hm
      have hne : ¬ w2.heap.size = w.heap.size := by omega
      go_wp2
      go_cut [8] (fun c wx => ∃ (a' : Nat) (e' : Int), c = .bool true ∧ a' ≤ s.size ∧ Rd wx w.heap.size s a' e' ∧ wx.heap[w2.heap.size]? = some (.cells #[.string s, .int .i64 a', .int .i64 e'] 41 (0, 0)) ∧ Below w.heap.size w wx)
      case first =>
        first | go_region_with (go_at_call 23; refine (one_any y.x y.t hr.drewd hs ha hN).mono ?_; rintro r w4 ⟨a', e', rfl, ha', hr4, hf4⟩; have hm4 := (hf4.block w2.heap.size hg hne).trans hm; obtain ⟨u0, u1, u2, v0, v1, v2⟩ := mblk hm4) | skip
        all_goals
          go_wp2_with fail
          go_meet
          exact ⟨a', e', rfl, ha', hr4.kept (fs3 _ _ _ _ _) (Ne.symm hne), mset3 _ _ _ hm4, ((hbel.drew.trans (hf4.below hbel.size (fun k hk => by omega))).trans ((fs3 _ _ _ _ _).below (Nat.le_trans hbel.size hf4.size) (fun k hk => by omega)))⟩
      case rest =>
        obtain ⟨a', e', rfl, ha', hr', hm', hbel'⟩ := hcut
        obtain ⟨u0, u1, u2, v0, v1, v2⟩ := mblk hm'
        clear m0 m1 m2 t0' t1' t2' t3'
        go_wp2_with fail
        go_quiet ((first | (go_at_call 24; exact Calls.quiet_of_same (err_any (hr'.drewN _))) | (go_at_call 25; exact Calls.quiet_of_same (at_any (hr'.drewN _))) | (go_at_call 26; exact Calls.quiet_of (left_any (hr'.drewN _) hs ha'))))
        go_wp2
        go_roundw
        case rel => exact ⟨k + 1, a', e', by omega, by go_num, ha', hr'.drewN _, hm', below_drewN hbel' _⟩
        case measure => simp [intOf]; omega
    · go_wp2
      go_ret
      exact ⟨rfl, hbel⟩
end Go.Proofs.Ythlmohbpedcmfaa
