/- plan: Drop, Live, Gone of leases. -/
import Derived.Test.YtipopaicehimeaaPlLs
import Derived.Shelf.AbstractIn
import Derived.Laws.IdiomRangeMap
import Derived.Laws.Bits64
namespace Go.Proofs.Ytipopaicehimeaa
open Go.RowKit Go.Maps Go.Sort Go.Shelf
attribute [local go_sem] Oper.semAt_some
theorem getL_all_none {M : List Lz} (h : ∀ x, getL M x = none) : M = [] := by
  cases M with
  | nil => rfl
  | cons y r => exact absurd rfl (getL_none.1 (h y.k) y List.mem_cons_self)
set_option maxRecDepth 100000 in
theorem ldrop {w : World} {B p : Nat} {long : Int} {mb : Option Nat} {M : List Lz} (h : LA w B p long mb M) {x : Int} (hx : I6 x) {M' : List Lz} (h1 : (M'.map (·.k)).Nodup) (h2 : ∀ z ∈ M', z.ok) (h3 : ∀ z, getL M' z = if z = x then none else getL M z) :
    Calls Try.prog 13 #[.pointer (some ⟨p, 0, none⟩), .int .i64 x] w fun r w' => r = .returned (.bool (getL M x).isSome) ∧ LTo w w' B p long mb M' := by
  have HA : Hid (LA w B p long mb M) := h
  have c1 := h.c1
  have hlk := h.look hx
  rw [lv_getD] at hlk
  generalize lzD (getL M x) = y at hlk
  cases mb with
  | none =>
    have hM : M = [] := h.mp
    have hM' : M' = [] := getL_all_none (fun z => by rw [h3, hM]; split <;> rfl)
    subst hM'
    subst hM
    have hdel := fun W ty => Maps.drop_nil (w := W) plaw Try.underlying48 (pkey hx) ty
    generalize (getL [] x).isSome = bb at hlk ⊢
    clear h h1 h2 h3
    go_enter Try.func13, Try.ntmps13
    go_upto_region 4 with (fail)
    generalize hW : World.alloc _ _ = W
    have bW : Below w.heap.size w W := by rw [← hW]; exact gone_new _ _
    have HA1 : Hid (LA W B p long none []) := HA.out.new bW
    have HB1 : Hid (Below w.heap.size w W) := bW
    have c1 := HA1.out.c1
    clear hW bW hlk
    generalize w.heap.size = q
    go_wp2
    go_ret
    exact ⟨rfl, LTo.same HA.out HB1.out⟩
  | some b =>
    obtain ⟨hBb, hbp, hM⟩ := h.mp
    have HM : Hid (LMap w b M) := hM
    have HBb : Hid (B ≤ b ∧ b ≠ p) := ⟨hBb, hbp⟩
    have HD : Hid (∀ (W : World) ty, LMap W b M → ∃ w', (Builtin.delete_ #[48, 3] ty #[.map (some b), .int .i64 x]).run Try.prog W = .ok (.tuple #[]) w' ∧ LMap w' b M' ∧ Fr W w' (fun k => k = b)) := fun W ty hm => hm.del hx ty h1 h2 h3
    generalize (getL M x).isSome = bb at hlk ⊢
    clear h h1 h2 h3 hM hBb hbp
    go_enter Try.func13, Try.ntmps13
    go_upto_region 4 with (fail)
    generalize hW : World.alloc _ _ = W
    have bW : Below w.heap.size w W := by rw [← hW]; exact gone_new _ _
    have HA1 : Hid (LA W B p long (some b) M) := HA.out.new bW
    have HB1 : Hid (Below w.heap.size w W) := bW
    have c1 := HA1.out.c1
    obtain ⟨W3, hrun, hM4, hF4⟩ := HD.out W 0 (HM.out.new bW)
    have HM4 : Hid (LMap W3 b M') := hM4
    have HF4 : Hid (Fr W W3 (fun k => k = b)) := hF4
    clear hW bW hlk hM4 hF4
    generalize w.heap.size = q
    go_wp2
    go_ret
    have hne := HBb.out
    refine ⟨rfl, some b, ⟨(HF4.out.block p HA1.out.lt (fun e => hne.2 e.symm)).trans HA1.out.box, HA1.out.low, hne.1, hne.2, HM4.out⟩, ?_⟩
    exact (Fr.ofBelow HB1.out (fun k => k = p ∨ some b = some k)).trans HF4.out (fun k hk e => .inr (by rw [e]))
theorem sortsI (m : Nat) : AnyZI.SortsIn Try.prog laySortedInt_ren Fence.wide m :=
  ⟨fun blk off cap ss W hH hblk hsz => callsIn_wide.2 (AnyM.slices_Sort_int laySortInt blk off cap ss W hH hblk hsz),
   fun p cap W => callsIn_wide.2 (AnyM.slices_Sort_int_none laySortInt p cap W)⟩
set_option maxHeartbeats 1000000 in
theorem llive {w : World} {B p : Nat} {long : Int} {mb : Option Nat} {M : List Lz} (h : LA w B p long mb M) (hn : M.length ≤ 1000000) : Calls Try.prog 16 #[.pointer (some ⟨p, 0, none⟩)] w fun r w' => ∃ v, r = .returned v ∧ IO_ w' w.heap.size v (risL (M.map (·.k))) ∧ Below w.heap.size w w' := by
  have c1 := h.c1
  cases mb with
  | some b =>
    obtain ⟨_, _, D0, nn, hown, hm⟩ := h.mp
    have hperm := hm.perm hown
    have hsz := hm.size hown
    have HP : Hid (∀ ss : List Int, ss.Perm (intKeys D0) → ss.mergeSort (fun x y => decide (x ≤ y)) = risL (M.map (·.k)) ∧ ss.length = (risL (M.map (·.k))).length) := fun ss hss => by
      have hp := hss.trans hperm.symm
      have hnd : ss.Nodup := hp.nodup_iff.2 hm.nod
      have e : ss.mergeSort (fun x y => decide (x ≤ y)) = risL (M.map (·.k)) := by
        rw [sorted_ris hnd]
        exact rise_ext (risL_rise _) (risL_rise _) (fun x => by rw [risL_mem, risL_mem]; exact hp.mem_iff)
      exact ⟨e, by rw [← e, List.length_mergeSort]⟩
    refine (callsIn_wide (n := 6)).1 ?_
    have hbl := hown.lt
    have hseq : SeqGives Fence.wide 2 Try.prog 27 #[.pointer (some ⟨w.heap.size, 0, none⟩)] encZ (fun ss => ss.Perm (intKeys D0)) (Maps.size D0) (w.alloc (.cells #[.map (some b)] 48)) :=
      AnyZI.keys_gives (ρ := layKeysL_ren) { layKeysL with } Fence.wide _ trivial rfl (by omega) w.heap.size b nn D0 _ (by simp) (by simp) (by
        obtain ⟨es, clock, hb, Ft, hs, hD⟩ := hown
        exact ⟨es, clock, (Below.heap_alloc _ _ b hbl).trans hb, Ft, hs, hD⟩)
    have cK : ∀ mb W, CallsIn Fence.wide 5 Try.prog 22 #[.map mb] W fun e w' => e = .returned (.func (.func 27) #[] #[.pointer (some ⟨W.heap.size, 0, none⟩)]) ∧ w' = W.alloc (.cells #[.map mb] 48) := fun mb W => AnyZI.keys_in layKeysL Fence.wide 5 trivial rfl mb W
    have cS := AnyZI.sorted_in laySortedInt Fence.wide 5 trivial trivial trivial trivial rfl (by omega) (sortsI _) (enters_of Try.func19 (by kernel_rfl) rfl) 27 #[.pointer (some ⟨w.heap.size, 0, none⟩)] trivial (enters_of Try.func27 (by kernel_rfl) rfl) _ _ (by rw [hsz]; unfold maxLen; omega) (by rw [hsz]; omega) _ hseq
    change CallsIn _ _ Try.prog 21 _ _ _ at cS
    have hfK : Fence.wide.fn 22 := trivial
    have hfS : Fence.wide.fn 21 := trivial
    clear hperm hsz hown hm h
    refine callsIn_of_wp Try.func16 rfl trivial ?_ rfl
    simp only [Try.ntmps16, List.size_toArray, List.length_cons, List.length_nil, Nat.reduceAdd, Nat.reduceSub, Array.replicate_succ, Array.replicate_zero, List.push_toArray, List.append_toArray, List.nil_append, List.cons_append]
    gi_wp2_with (first
      | (gi_at_call 22; refine (cK _ _).mono ?_; rintro e w' ⟨rfl, rfl⟩)
      | (gi_at_call 21; refine cS.mono ?_; rintro e w' ⟨v, ss, rfl, hS, hrow, hnil, hb⟩))
    go_ret
    obtain ⟨e1, e2⟩ := HP.out ss hS
    rw [e1, e2] at hrow
    exact ⟨v, rfl, (io_iff.2 hrow).lower (by simp), ((Below.refl _ w).alloc (Nat.le_refl _) _).trans (hb.mono (by simp))⟩
  | none =>
    have hM : M = [] := h.mp
    subst hM
    refine (callsIn_wide (n := 6)).1 ?_
    have hseq : SeqGives Fence.wide 2 Try.prog 27 #[.pointer (some ⟨w.heap.size, 0, none⟩)] encZ (fun ss : List Int => ss = []) 0 (w.alloc (.cells #[.map none] 48)) :=
      AnyZI.keys_gives_nil (ρ := layKeysL_ren) { layKeysL with } Fence.wide _ trivial rfl w.heap.size _ (by simp) (by simp)
    have cK : ∀ mb W, CallsIn Fence.wide 5 Try.prog 22 #[.map mb] W fun e w' => e = .returned (.func (.func 27) #[] #[.pointer (some ⟨W.heap.size, 0, none⟩)]) ∧ w' = W.alloc (.cells #[.map mb] 48) := fun mb W => AnyZI.keys_in layKeysL Fence.wide 5 trivial rfl mb W
    have cS := AnyZI.sorted_in laySortedInt Fence.wide 5 trivial trivial trivial trivial rfl (by omega) (sortsI _) (enters_of Try.func19 (by kernel_rfl) rfl) 27 #[.pointer (some ⟨w.heap.size, 0, none⟩)] trivial (enters_of Try.func27 (by kernel_rfl) rfl) _ 0 (Nat.zero_le _) (by omega) _ hseq
    change CallsIn _ _ Try.prog 21 _ _ _ at cS
    have hfK : Fence.wide.fn 22 := trivial
    have hfS : Fence.wide.fn 21 := trivial
    clear h
    refine callsIn_of_wp Try.func16 rfl trivial ?_ rfl
    simp only [Try.ntmps16, List.size_toArray, List.length_cons, List.length_nil, Nat.reduceAdd, Nat.reduceSub, Array.replicate_succ, Array.replicate_zero, List.push_toArray, List.append_toArray, List.nil_append, List.cons_append]
    gi_wp2_with (first
      | (gi_at_call 22; refine (cK _ _).mono ?_; rintro e w' ⟨rfl, rfl⟩)
      | (gi_at_call 21; refine cS.mono ?_; rintro e w' ⟨v, ss, rfl, rfl, hrow, hnil, hb⟩; obtain rfl : v = .slice none 0 0 := hnil.2 rfl))
    go_ret
    exact ⟨_, rfl, GO.nil _ _ _ _ _, ((Below.refl _ w).alloc (Nat.le_refl _) _).trans (hb.mono (by simp))⟩
/-- So many ticks are behind it. -/
def overB (long t now : Int) : Bool := decide (t ≤ now) && decide (long ≤ now - t)
theorem u64_sub {a b : Int} (ha : I6 a) (hb : I6 b) (h : b ≤ a) : IntKind.u64.wrap (IntKind.u64.wrap a - IntKind.u64.wrap b) = a - b := by
  unfold I6 at ha hb
  rw [IntKind.wrap_u64, IntKind.wrap_u64, IntKind.wrap_u64]
  omega
theorem u64_self {a : Int} (h0 : 0 ≤ a) (h1 : a ≤ 9223372036854775807) : IntKind.u64.wrap a = a := by
  rw [IntKind.wrap_u64]
  omega
set_option maxRecDepth 100000 in
theorem lover {w : World} {long l t now : Int} (h1 : 1 ≤ long) (h2 : long ≤ 1048576) (ht : I6 t) (hn : I6 now) : Calls Try.prog 23 #[.agg #[.int .i64 l, .int .i64 t], .int .i64 long, .int .i64 now] w fun r w' => r = .returned (.bool (overB long t now)) ∧ Below w.heap.size w w' := by
  obtain ⟨res, hres⟩ : ∃ res, overB long t now = res := ⟨_, rfl⟩
  have HR : Hid (overB long t now = res) := hres
  rw [hres]
  clear hres
  by_cases hle : t ≤ now
  · have e1 := u64_sub hn ht hle
    have e2 := u64_self (a := long) (by omega) (by omega)
    have HE : Hid (res = decide (long ≤ now - t)) := by
      show _ = _
      rw [← HR.out]
      unfold overB
      rw [decide_eq_true hle, Bool.true_and]
    generalize now - t = d at e1 HE
    go_enter Try.func23, Try.ntmps23
    go_wp2
    go_ret
    exact ⟨by rw [HE.out]; simp, gone_new _ _⟩
  · have HE : Hid (res = false) := by
      show _ = _
      rw [← HR.out]
      unfold overB
      rw [decide_eq_false hle]
      rfl
    have hlt : now < t := by omega
    go_enter Try.func23, Try.ntmps23
    go_wp2
    go_ret
    exact ⟨by rw [HE.out]; rfl, gone_new _ _⟩
theorem ranges_fr {H : Type} {P : Program} {k : TypeId} {R : Value → Option (DataW H × List MemPlace)} {w w' : World} {b r n : Nat} {D : DataW H} {left : Lit → Bool} {cnt : Nat} {S : Nat → Prop} (h : w.ranges P k R b r n D left cnt) (f : Fr w w' S) (hb : ¬ S b) (hr : ¬ S r) : w'.ranges P k R b r n D left cnt := by
  have h1 := h.owns.lt
  have h2 := h.lt
  obtain ⟨es, clock, since, seen, c0, g1, g2, g3, g4, g5, g6⟩ := h
  exact ⟨es, clock, since, seen, c0, (f.block b h1 hb).trans g1, g2, g3, g4, (f.block r h2 hr).trans g5, g6⟩
theorem skey_self (x : Int) : (Lit.int .i64 x).sameKey (.int .i64 x) = true := by simp [Lit.sameKey]
/-- Which workers are gone. -/
def goneP (M : List Lz) (long now x : Int) : Prop := ∃ y, getL M x = some y ∧ overB long y.t now = true
/-- What has been gathered, of those that have come up. -/
def GoneI (M : List Lz) (long now : Int) (left : Lit → Bool) (S : List Int) : Prop := S.Nodup ∧ ∀ x, x ∈ S ↔ goneP M long now x ∧ left (.int .i64 x) = false
theorem GoneI.start {M : List Lz} {D : DataW Value} (hm : LM M D) (long now : Int) : GoneI M long now (Maps.has D) [] := by
  refine ⟨List.nodup_nil, fun x => ⟨fun h => (by cases h), ?_⟩⟩
  rintro ⟨⟨y, hy, _⟩, h⟩
  rw [hm.has, hy] at h
  cases h
theorem left_step {left : Lit → Bool} {x z : Int} : (left (.int .i64 z) && !(Lit.int .i64 z).sameKey (.int .i64 x)) = false ↔ left (.int .i64 z) = false ∨ z = x := by
  by_cases e : z = x
  · subst e
    rw [skey_self]
    simp
  · rw [sameKey_ne (pkey_ne e)]
    simp [e]
theorem GoneI.no {M : List Lz} {long now : Int} {left : Lit → Bool} {S : List Int} {x : Int} {y : Lz} (h : GoneI M long now left S) (hy : getL M x = some y) (ho : overB long y.t now = false) : GoneI M long now (fun z => left z && !z.sameKey (.int .i64 x)) S := by
  refine ⟨h.1, fun z => ?_⟩
  rw [h.2, left_step]
  constructor
  · rintro ⟨h1, h2⟩
    exact ⟨h1, .inl h2⟩
  · rintro ⟨h1, h2 | rfl⟩
    · exact ⟨h1, h2⟩
    · obtain ⟨y', e, h3⟩ := h1
      rw [hy] at e
      cases e
      rw [ho] at h3
      cases h3
theorem GoneI.yes {M : List Lz} {long now : Int} {left : Lit → Bool} {S : List Int} {x : Int} {y : Lz} (h : GoneI M long now left S) (hl : left (.int .i64 x) = true) (hy : getL M x = some y) (ho : overB long y.t now = true) : GoneI M long now (fun z => left z && !z.sameKey (.int .i64 x)) (S ++ [x]) := by
  have hx : x ∉ S := fun hx => by
    have := ((h.2 x).1 hx).2
    rw [hl] at this
    cases this
  refine ⟨?_, fun z => ?_⟩
  · rw [List.nodup_append]
    refine ⟨h.1, by simp, ?_⟩
    intro a ha b hb
    rw [List.mem_singleton.1 hb]
    rintro rfl
    exact hx ha
  · rw [List.mem_append, List.mem_singleton, h.2, left_step]
    constructor
    · rintro (⟨h1, h2⟩ | rfl)
      · exact ⟨h1, .inl h2⟩
      · exact ⟨⟨y, hy, ho⟩, .inr rfl⟩
    · rintro ⟨h1, h2 | rfl⟩
      · exact .inl ⟨h1, h2⟩
      · exact .inr rfl
theorem nodup_le : ∀ {S L : List Int}, S.Nodup → (∀ x ∈ S, x ∈ L) → S.length ≤ L.length
  | [], _, _, _ => Nat.zero_le _
  | a :: S, L, hn, h => by
    have hn' := List.nodup_cons.1 hn
    have ha := h a List.mem_cons_self
    have := nodup_le (L := L.erase a) hn'.2 (fun x hx => (List.mem_erase_of_ne (by rintro rfl; exact hn'.1 hx)).2 (h x (List.mem_cons_of_mem _ hx)))
    rw [List.length_erase_of_mem ha] at this
    have := List.length_pos_of_mem ha
    simp only [List.length_cons]
    omega
theorem GoneI.len {M : List Lz} {long now : Int} {left : Lit → Bool} {S : List Int} (h : GoneI M long now left S) : S.length ≤ M.length := by
  have h1 : ∀ x ∈ S, x ∈ M.map (·.k) := fun x hx => by
    obtain ⟨⟨y, hy, _⟩, _⟩ := (h.2 x).1 hx
    have := getL_mem hy
    exact List.mem_map.2 ⟨y, this.1, this.2⟩
  have := nodup_le h.1 h1
  rwa [List.length_map] at this
/-- Those that are gone, in the order of the leases. -/
def goneL (M : List Lz) (long now : Int) : List Int := (M.filter (fun y => overB long y.t now)).map (·.k)
theorem goneL_mem {M : List Lz} (hn : (M.map (·.k)).Nodup) {long now x : Int} : x ∈ goneL M long now ↔ goneP M long now x := by
  unfold goneL goneP
  rw [List.mem_map]
  constructor
  · rintro ⟨y, hy, rfl⟩
    rw [List.mem_filter] at hy
    obtain ⟨A, C, rfl⟩ := List.append_of_mem hy.1
    refine ⟨y, getL_at (fun z hz e => ?_), hy.2⟩
    rw [List.map_append, List.nodup_append] at hn
    exact hn.2.2 z.k (List.mem_map.2 ⟨z, hz, rfl⟩) y.k (by simp) e
  · rintro ⟨y, hy, ho⟩
    have := getL_mem hy
    exact ⟨y, List.mem_filter.2 ⟨this.1, ho⟩, this.2⟩
theorem GoneI.done {M : List Lz} (hn : (M.map (·.k)).Nodup) {long now : Int} {left : Lit → Bool} {S : List Int} (h : GoneI M long now left S) (hl : ∀ kl, left kl = false) : srtI S = risL (goneL M long now) := by
  unfold srtI
  rw [sorted_ris h.1]
  refine rise_ext (risL_rise _) (risL_rise _) (fun x => ?_)
  rw [risL_mem, risL_mem, h.2, goneL_mem hn]
  exact ⟨fun h => h.1, fun h => ⟨h, hl _⟩⟩
set_option linter.unusedSimpArgs false in
set_option linter.unusedVariables false in
set_option maxRecDepth 100000 in
set_option maxHeartbeats 4000000 in
theorem lgone_some {w : World} {B p b : Nat} {long now : Int} {M : List Lz} (h : LA w B p long (some b) M) (h1 : 1 ≤ long) (h2 : long ≤ 1048576) (hnow : I6 now) (hl : M.length ≤ 1000000) : Calls Try.prog 17 #[.pointer (some ⟨p, 0, none⟩), .int .i64 now] w fun r w' => ∃ v, r = .returned v ∧ IO_ w' w.heap.size v (risL (goneL M long now)) ∧ Below w.heap.size w w' := by
  have c1 := h.c1
  have HA : Hid (LA w B p long (some b) M) := h
  obtain ⟨_, _, D, n, hown, hm⟩ := h.mp
  have HO : Hid (w.ownsMap Try.prog 3 pR b n D) := hown
  have HM : Hid (LM M D) := hm
  have HOv : Hid (∀ (W : World) (l t : Int), I6 t → Calls Try.prog 23 #[.agg #[.int .i64 l, .int .i64 t], .int .i64 long, .int .i64 now] W fun r w' => r = .returned (.bool (overB long t now)) ∧ Below W.heap.size W w') := fun W l t ht => lover h1 h2 ht hnow
  have HNow : Hid (I6 now) := hnow
  clear h hown hm h1 h2 hnow
  go_enter Try.func17, Try.ntmps17
  go_wp2_with (at_range; refine wpList_range_own _ rfl _ 48 rfl 3 52 plaw Try.underlying48 pR b n D rfl HO.out ?_; intro w0 hrg0 hg0 hs0)
  go_frame
  have HB0 : Hid (Below w.heap.size w w0) := (Fr.grown (S := fun _ => False) hg0 (fun k hk => by cases hk)).below (Nat.le_refl _) (fun k hk => hk.elim)
  go_loopw [5, 6, 7] (fun gv _ _ wr => ∃ (left : Lit → Bool) (cnt : Nat) (S : List Int), Hid (wr.ranges Try.prog 3 pR b w.heap.size n D left cnt) ∧ Hid (IO_ wr (w.heap.size + 1) gv S) ∧ Hid (GoneI M long now left S) ∧ Hid (Below w.heap.size w wr)) (fun _ _ _ wr => wr.rangeLeft b w.heap.size)
  case atStart => exact ⟨_, _, [], hrg0, (show IO_ _ _ _ _ from GO.nil _ _ _ _ _), GoneI.start HM.out long now, HB0⟩
  case round =>
    clear hrg0 hg0 hs0 HB0
    obtain ⟨left, cnt, S, HR, HI, HG, HB⟩ := hrel
    go_wp2_with (at_next; refine wpList_next_ranges _ rfl _ rfl 3 plaw pR (Value.int .i64) (fun v : Value => v) (fun key kl hkey => by obtain ⟨x, rfl, _⟩ := Maps.keyOf_int_inv Try.underlying3 hkey; exact ⟨x, rfl⟩) (fun v y _ => ⟨v, rfl⟩) b w.heap.size n D left cnt rfl HR.out ?_ ?_)
    · intro _ hnone
      have HF : Hid (srtI S = risL (goneL M long now)) := HG.out.done HM.out.nod hnone
      have hS := psort (by have := HG.out.len; omega) HI.out
      have HL : Hid (∀ k, u5.ownBlock = some k → w.heap.size ≤ k) := fun k hk => by have := (GO.lt HI.out k hk).1; omega
      obtain ⟨ao, c, hsh, _, _⟩ := GO.shape HI.out
      subst hsh
      clear hnone
      go_wp2_with (go_at_call 19; refine hS.mono ?_; rintro r w2 ⟨rfl, hr2, hf2⟩)
      go_ret
      refine ⟨_, rfl, ?_, HB.out.trans (hf2.below HB.out.size HL.out)⟩
      rw [← HF.out]
      exact GO.lower hr2 (by omega)
    · intro x c kl y0 ps w2 cnt2 hkey hlk hv hat hrg2 hlt hg2 hs2 hen
      obtain ⟨x', ex, rfl, hwx⟩ := Maps.keyOf_int_inv (P := Try.prog) Try.underlying3 hkey
      cases ex
      obtain ⟨y, hy, hc⟩ : ∃ y, getL M x = some y ∧ c = lv y := by
        have hy0 : y0 = .held c := by cases hv; rfl
        have e : ∀ z, (((getL M x).map lv).getD z) = c := fun z => by
          have h1 := hat (.held z)
          rw [HM.out.at_ x z, hy0] at h1
          exact DataW.held.inj h1
        cases hg : getL M x with
        | none =>
          rw [hg] at e
          have e1 := (e (.bool true)).trans (e (.bool false)).symm
          simp at e1
        | some y => rw [hg] at e; exact ⟨y, rfl, (e c).symm⟩
      subst hc
      have HYt : Hid (I6 y.t) := (HM.out.ok y (getL_mem hy).1).2.2
      have HNo : Hid (overB long y.t now = false → GoneI M long now (fun z => left z && !z.sameKey (.int .i64 x)) S) := fun ho => HG.out.no hy ho
      have HYes : Hid (overB long y.t now = true → GoneI M long now (fun z => left z && !z.sameKey (.int .i64 x)) (S ++ [x])) := fun ho => HG.out.yes hlk hy ho
      have hf2 : Fr wr w2 (fun k => k = w.heap.size) := Fr.grown hg2 (fun k hk => by cases hk; rfl)
      have HB2 : Hid (Below w.heap.size w w2) := HB.out.trans (hf2.below HB.out.size (fun k hk => by omega))
      have HR2 : Hid (w2.ranges Try.prog 3 pR b w.heap.size n D (fun z => left z && !z.sameKey (.int .i64 x)) cnt2) := hrg2
      have HI2 : Hid (IO_ w2 (w.heap.size + 1) u5 S) := GO.kept HI.out hf2 (fun k hk e => by have := (GO.lt HI.out k hk).1; omega)
      have HCn : Hid (cnt2 < cnt) := hlt
      have HLn : Hid (S.length ≤ M.length) := HG.out.len
      obtain ⟨ao, c, hsh, _, _⟩ := GO.shape HI.out
      subst hsh
      simp only [lv] at hen ⊢
      clear hkey hlk hv hat hrg2 hlt hg2 hs2 hwx hy hf2
      go_upto_region 7 with (fail)
      generalize hW : World.alloc _ _ = W
      have bW : Below w2.heap.size w2 W := by rw [← hW]; exact gone_new _ _
      have hZ : W.heap[w2.heap.size]? = some (.cells #[.int .i64 y.l, .int .i64 y.t] 52 (0, 0)) := by rw [← hW]; exact heap_alloc_new _ _
      have HB3 : Hid (Below w.heap.size w W) := HB2.out.trans (bW.mono HB2.out.size)
      have HR3 : Hid (W.ranges Try.prog 3 pR b w.heap.size n D (fun z => left z && !z.sameKey (.int .i64 x)) cnt2) := ranges_fr HR2.out (Fr.ofBelow bW (fun _ => False)) (fun h => h) (fun h => h)
      have HI3 : Hid (IO_ W (w.heap.size + 1) (.slice ao S.length c) S) := GO.new HI2.out bW
      have HCo : Hid (cnt = wr.rangeLeft b w.heap.size) := (World.ranges.left_eq HR.out).symm
      clear hW bW hen HB2 HR2 HI2 HB HR HI
      generalize w2.heap.size = q at hZ ⊢
      have hA3 := HA.out.new HB3.out
      obtain ⟨Wd, hWd⟩ : ∃ Wd, World.drew W = Wd := ⟨_, rfl⟩
      have y0 : Wd.cell? ⟨p, 0, none⟩ = some (.int .i64 long) := by rw [← hWd]; exact hA3.c0
      have y1 : Wd.cell? ⟨q, 0, none⟩ = some (.int .i64 y.l) := by rw [← hWd]; exact (gbox2 hZ).1
      have y2 : Wd.cell? ⟨q, 1, none⟩ = some (.int .i64 y.t) := by rw [← hWd]; exact (gbox2 hZ).2.1
      have HB4 : Hid (Below w.heap.size w Wd) := by show Below _ _ _; rw [← hWd]; exact below_drewN HB3.out 1
      have HR4 : Hid (Wd.ranges Try.prog 3 pR b w.heap.size n D (fun z => left z && !z.sameKey (.int .i64 x)) cnt2) := by show World.ranges _ _ _ _ _ _ _ _ _ _; rw [← hWd]; exact HR3.out
      have HI4 : Hid (IO_ Wd (w.heap.size + 1) (.slice ao S.length c) S) := by show IO_ _ _ _ _; rw [← hWd]; exact HI3.out
      clear hA3 hZ HB3 HR3 HI3
      refine wp_calmP ?_
      refine wp_region_L [] (fun w' : World => w'.cell? ⟨p, 0, none⟩ = some (.int .i64 long) ∧ w'.cell? ⟨q, 0, none⟩ = some (.int .i64 y.l) ∧ w'.cell? ⟨q, 1, none⟩ = some (.int .i64 y.t)) (by kernel_rfl) ?_
      rw [hWd]
      clear hWd
      have hS : (fun w' : World => w'.cell? ⟨p, 0, none⟩ = some (.int .i64 long) ∧ w'.cell? ⟨q, 0, none⟩ = some (.int .i64 y.l) ∧ w'.cell? ⟨q, 1, none⟩ = some (.int .i64 y.t)) Wd := ⟨y0, y1, y2⟩
      refine wpAnyL_take (i := 0) 20 (v := .agg #[.int .i64 y.l, .int .i64 y.t]) rfl rfl (by kernel_rfl) (by kernel_rfl) (by kernel_rfl) (by kernel_rfl) (by kernel_rfl) (by kernel_rfl) (fun _ _ _ h => h) hS (by rfl) (by intro w' hSw; obtain ⟨y0, y1, y2⟩ := hSw; go_simp <;> with_reducible rfl) ?_
      simp only [Act.put, List.setIfInBounds_toArray, List.set_cons_zero, List.set_cons_succ]
      refine wpAnyL_take (i := 1) 21 (v := .pointer (some ⟨p, 0, none⟩)) rfl rfl (by kernel_rfl) (by kernel_rfl) (by kernel_rfl) (by kernel_rfl) (by kernel_rfl) (by kernel_rfl) (fun _ _ _ h => h) hS (by rfl) (by intro w' hSw; obtain ⟨y0, y1, y2⟩ := hSw; go_simp <;> with_reducible rfl) ?_
      simp only [Act.put, List.setIfInBounds_toArray, List.set_cons_zero, List.set_cons_succ]
      refine wpAnyL_take (i := 2) 22 (v := .pointer (some ⟨p, 0, none⟩)) rfl rfl (by kernel_rfl) (by kernel_rfl) (by kernel_rfl) (by kernel_rfl) (by kernel_rfl) (by kernel_rfl) (fun _ _ _ h => h) hS (by rfl) (by intro w' hSw; obtain ⟨y0, y1, y2⟩ := hSw; go_simp <;> with_reducible rfl) ?_
      simp only [Act.put, List.setIfInBounds_toArray, List.set_cons_zero, List.set_cons_succ]
      refine wpAnyL_take (i := 3) 23 (v := .pointer (some ⟨p, 0, none⟩)) rfl rfl (by kernel_rfl) (by kernel_rfl) (by kernel_rfl) (by kernel_rfl) (by kernel_rfl) (by kernel_rfl) (fun _ _ _ h => h) hS (by rfl) (by intro w' hSw; obtain ⟨y0, y1, y2⟩ := hSw; go_simp <;> with_reducible rfl) ?_
      simp only [Act.put, List.setIfInBounds_toArray, List.set_cons_zero, List.set_cons_succ]
      refine wpAnyL_take (i := 4) 24 (v := .int .i64 long) rfl rfl (by kernel_rfl) (by kernel_rfl) (by kernel_rfl) (by kernel_rfl) (by kernel_rfl) (by kernel_rfl) (fun _ _ _ h => h) hS (by rfl) (by intro w' hSw; obtain ⟨y0, y1, y2⟩ := hSw; go_simp <;> with_reducible rfl) ?_
      simp only [Act.put, List.setIfInBounds_toArray, List.set_cons_zero, List.set_cons_succ]
      refine wpAnyL_take (i := 5) 25 (v := .int .i64 now) rfl rfl (by kernel_rfl) (by kernel_rfl) (by kernel_rfl) (by kernel_rfl) (by kernel_rfl) (by kernel_rfl) (fun _ _ _ h => h) hS (by rfl) (by intro w' hSw; obtain ⟨y0, y1, y2⟩ := hSw; go_simp <;> with_reducible rfl) ?_
      simp only [Act.put, List.setIfInBounds_toArray, List.set_cons_zero, List.set_cons_succ]
      refine wpAnyL_one (i := 6) (by kernel_rfl) rfl (fun Ka hKa => ?_)
      go_simp
      refine (HOv.out Wd y.l y.t HYt.out).mono ?_
      rintro r w5 ⟨rfl, hb5⟩
      have hS5 : (fun w' : World => w'.cell? ⟨p, 0, none⟩ = some (.int .i64 long) ∧ w'.cell? ⟨q, 0, none⟩ = some (.int .i64 y.l) ∧ w'.cell? ⟨q, 1, none⟩ = some (.int .i64 y.t)) w5 := ⟨gnew_cell hb5 y0, gnew_cell hb5 y1, gnew_cell hb5 y2⟩
      refine hKa.out _ _ (fun _ => hS5) ?_
      clear hKa Ka
      try simp only [Act.put, List.setIfInBounds_toArray, List.set_cons_zero, List.set_cons_succ]
      refine wpAnyL_done (by kernel_rfl) ?_ _
      have HB5 : Hid (Below w.heap.size w w5) := HB4.out.trans (hb5.mono HB4.out.size)
      have HR5 : Hid (w5.ranges Try.prog 3 pR b w.heap.size n D (fun z => left z && !z.sameKey (.int .i64 x)) cnt2) := ranges_fr HR4.out (Fr.ofBelow hb5 (fun _ => False)) (fun h => h) (fun h => h)
      have HI5 : Hid (IO_ w5 (w.heap.size + 1) (.slice ao S.length c) S) := GO.new HI4.out hb5
      have HX : Hid (b < w.heap.size) := HO.out.lt
      have HX5 : Hid (w.heap.size < w5.heap.size) := HR5.out.lt
      clear hb5 hS5 hS y0 y1 y2 HB4 HR4 HI4
      cases ho : overB long y.t now with
      | true =>
        have HG2 := HYes.out ho
        have HG3 : Hid (GoneI M long now (fun z => left z && !z.sameKey (.int .i64 x)) (S ++ [x])) := HG2
        clear HG2
        go_wp2_with (at_builtin; refine wpl_appG gT_int rfl rfl rfl rfl (R := S) (S := [x]) (GO.new HI5.out (gone_new _ _)) (GS.one (heap_alloc_new _ _) rfl 1 (Nat.le_refl _)) (by have := HLn.out; simp; omega) (by have := HX5.out; simp; omega) ?_; intro v6 w6 ho6 hf6 _)
        have f6 : Fr w5 w6 (fun k => (Value.slice ao S.length c).ownBlock = some k) := (Fr.ofBelow (gone_new _ _) _).trans hf6 (fun _ _ h => h)
        have HB6 : Hid (Below w.heap.size w w6) := HB5.out.trans (f6.below HB5.out.size (fun k hk => by have := (GO.lt HI5.out k hk).1; omega))
        have HR6 : Hid (w6.ranges Try.prog 3 pR b w.heap.size n D (fun z => left z && !z.sameKey (.int .i64 x)) cnt2) := ranges_fr HR5.out f6 (fun e => by have := (GO.lt HI5.out b e).1; have := HX.out; omega) (fun e => by have := (GO.lt HI5.out _ e).1; omega)
        have HI6 : Hid (IO_ w6 (w.heap.size + 1) v6 (S ++ [x])) := ho6
        clear f6 hf6 ho6
        go_roundw
        case rel => exact ⟨_, cnt2, _, HR6, HI6, HG3, HB6⟩
        case measure => rw [World.ranges.left_eq HR6.out, ← HCo.out]; exact HCn.out
      | false =>
        have HG3 : Hid (GoneI M long now (fun z => left z && !z.sameKey (.int .i64 x)) S) := HNo.out ho
        go_wp2
        go_roundw
        case rel => exact ⟨_, cnt2, _, HR5, HI5, HG3, HB5⟩
        case measure => rw [World.ranges.left_eq HR5.out, ← HCo.out]; exact HCn.out
theorem lgone_none {w : World} {B p : Nat} {long now : Int} {M : List Lz} (h : LA w B p long none M) : Calls Try.prog 17 #[.pointer (some ⟨p, 0, none⟩), .int .i64 now] w fun r w' => ∃ v, r = .returned v ∧ IO_ w' w.heap.size v (risL (goneL M long now)) ∧ Below w.heap.size w w' := by
  have c1 := h.c1
  have hM : M = [] := h.mp
  subst hM
  clear h
  have hrg := run_range_nilMap (P := Try.prog) w 48 _ _ Try.underlying48
  have hnx : ∀ ty, (Instr.next (.pointer (some ⟨w.heap.size, 0, none⟩)) false ty).run Try.prog (w.alloc (.mapIter none 0 #[] 0)) = _ := fun ty => run_next_nilMap _ ty 0 0 #[]
  have hS := fun W => psort (by decide) (GO.nil ie 1 3 W 0)
  go_enter Try.func17, Try.ntmps17
  go_wp2
  refine wp_loop_rounds 1 ?_
  rw [rounds_succ]
  go_wp2_with (go_at_call 19; refine (hS _).mono ?_; rintro r w2 ⟨rfl, hr2, hf2⟩)
  go_ret
  have hb : Below w.heap.size w (w.alloc (.mapIter none 0 #[] 0)) := gone_new _ _
  exact ⟨_, rfl, GO.nil _ _ _ _ _, hb.trans (hf2.below hb.size (fun k hk => by cases hk))⟩
end Go.Proofs.Ytipopaicehimeaa
