/- Len of a box. -/
import Derived.Test.YtfajkfngjfhkoaaCbMore
import Derived.Maps.RangeWalk
namespace Go.Proofs.Ytfajkfngjfhkoaa
open Go.RowKit Go.Maps
/-- Those that are still to come. -/
def leftM (left : Lit → Bool) (B : List Msg) : List Msg := B.filter fun m => left (.int .i64 m.t)
theorem leftM_all {w : World} {S : Nat → Prop} {M N : Nat} {D : DataW Value} {B : List Msg} (h : MP w S M N D B) : leftM (Maps.has D) B = B := by
  unfold leftM
  refine List.filter_eq_self.2 fun m hm => ?_
  rw [h.has m.t]
  have : m ∈ toV B m.t := List.mem_filter.2 ⟨hm, by simp⟩
  cases e : toV B m.t with
  | nil => rw [e] at this; cases this
  | cons y ys => rfl
theorem same_self (x : Int) : (Lit.int .i64 x).sameKey (.int .i64 x) = true := by simp [Lit.sameKey]
theorem part3 (p q r : Msg → Bool) (h1 : ∀ m, p m = true → q m = true ∧ r m = false) (h2 : ∀ m, p m = false → r m = q m) : ∀ B : List Msg, (B.filter p).length + (B.filter r).length = (B.filter q).length
  | [] => rfl
  | m :: B => by
    have ih := part3 p q r h1 h2 B
    cases hp : p m
    · have e := h2 m hp
      cases hq : q m
      · rw [hq] at e
        rw [List.filter_cons_of_neg (by simp [hp]), List.filter_cons_of_neg (by simp [e]), List.filter_cons_of_neg (by simp [hq])]
        exact ih
      · rw [hq] at e
        rw [List.filter_cons_of_neg (by simp [hp]), List.filter_cons_of_pos e, List.filter_cons_of_pos hq]
        simp only [List.length_cons]
        omega
    · obtain ⟨hq, hr⟩ := h1 m hp
      rw [List.filter_cons_of_pos hp, List.filter_cons_of_neg (by simp [hr]), List.filter_cons_of_pos hq]
      simp only [List.length_cons]
      omega
theorem leftM_step {left : Lit → Bool} {x : Int} (hx : left (.int .i64 x) = true) (B : List Msg) : (toV B x).length + (leftM (fun z => left z && !z.sameKey (.int .i64 x)) B).length = (leftM left B).length := by
  unfold toV leftM
  refine part3 _ _ _ (fun m hm => ?_) (fun m hm => ?_) B
  · obtain rfl : m.t = x := by simpa using hm
    refine ⟨hx, ?_⟩
    show (left (.int .i64 m.t) && !(Lit.int .i64 m.t).sameKey (.int .i64 m.t)) = false
    rw [same_self]
    simp
  · have e : m.t ≠ x := by simpa using hm
    show (left (.int .i64 m.t) && !(Lit.int .i64 m.t).sameKey (.int .i64 x)) = _
    rw [sameKey_ne (key_ne e)]
    simp
theorem leftM_none {left : Lit → Bool} (h : ∀ kl, left kl = false) (B : List Msg) : leftM left B = [] := List.filter_eq_nil_iff.2 fun m _ => by rw [h]; simp
set_option maxRecDepth 100000 in
theorem len_some {w : World} {S : Nat → Prop} {b M N : Nat} {D : DataW Value} {B : List Msg} (hbx : w.heap[b]? = some (.cells #[.map (some M)] 115 (0, 0))) (hM : MP w S M N D B) (hl : B.length ≤ 9223372036854775807) :
    Calls Try.prog 30 #[.pointer (some ⟨b, 0, none⟩)] w fun e w' => e = .returned (.int .i64 B.length) ∧ Below w.heap.size w w' := by
  have HM : Hid _ := hM
  have HB : Hid _ := hbx
  have HO : Hid (w.ownsMap Try.prog 2 heldR M N D) := hM.own
  clear hM hbx
  go_enter Try.func30, Try.ntmps30
  go_wp2_with (first
    | (go_at_call 58; refine (held_box HB.out).mono ?_; rintro e w1 ⟨rfl, rfl⟩)
    | (at_range; refine wpList_range_own _ rfl _ 113 rfl 2 58 law64 Try.underlying113 heldR M N D rfl HO.out ?_; intro w0 hrg0 hg0 hs0))
  go_frame
  go_loopw [3] (fun n wr => ∃ (left : Lit → Bool) (cnt k : Nat), wr.ranges Try.prog 2 heldR M w1.heap.size N D left cnt ∧ n = .int .i64 k ∧ k + (leftM left B).length = B.length ∧ Below w1.heap.size w1 wr) (fun _ wr => wr.rangeLeft M w1.heap.size)
  case atStart => exact ⟨_, _, 0, hrg0, rfl, by rw [leftM_all HM.out]; omega, (Fr.grown (S := fun _ => False) hg0 (fun k hk => by cases hk)).below (Nat.le_refl _) (fun k hk => hk.elim)⟩
  case round =>
    obtain ⟨left, cnt, k, hrg, rfl, hk, hb⟩ := hrel
    have HR : Hid _ := hrg
    have HW : Hid _ := hb
    have HLe : Hid _ := hk
    have hk2 : k ≤ B.length := by omega
    clear hrg hb hk hrg0 hg0 hs0
    go_wp2_with (at_next; refine wpList_next_ranges _ rfl _ rfl 2 law64 heldR (Value.int .i64) (fun v : Value => v) (fun key kl hkey => by obtain ⟨x, rfl, _⟩ := Maps.keyOf_int_inv Try.underlying2 hkey; exact ⟨x, rfl⟩) (fun v y _ => ⟨v, rfl⟩) M w1.heap.size N D left cnt rfl HR.out ?_ ?_)
    · intro _ hnone
      have HE : Hid _ := hnone
      clear hnone
      go_wp2
      go_ret
      have e := HLe.out
      rw [leftM_none HE.out] at e
      simp only [List.length_nil, Nat.add_zero] at e
      exact ⟨by rw [← e]; rfl, HW.out⟩
    · intro x c kl y y' w2 cnt2 hkey hlk hv hat hrg2 hlt hg2 hs2 hen
      obtain ⟨x', ex, rfl, hwx⟩ := Maps.keyOf_int_inv (P := Try.prog) Try.underlying2 hkey
      cases ex
      have hc : c = hdOf D x := hd_of (ps := []) (by rw [hat]; cases hv; rfl)
      obtain ⟨ao, cc, hsh⟩ := (HM.out.rows x).shape
      rw [← hc] at hsh
      subst hsh
      have hst := leftM_step hlk B
      have h0 := HLe.out
      have hb2 : Below w1.heap.size w1 w2 := HW.out.trans ((Fr.grown (S := fun k => k = w1.heap.size) hg2 (fun k hk => by cases hk; rfl)).below HW.out.size (fun k hk => by omega))
      have HR2 : Hid (w2.ranges Try.prog 2 heldR M w1.heap.size N D (fun z => left z && !z.sameKey (.int .i64 x)) cnt2) := hrg2
      have HB2 : Hid _ := hb2
      have HK2 : Hid (k + (toV B x).length + (leftM (fun z => left z && !z.sameKey (.int .i64 x)) B).length = B.length) := by show _ = _; omega
      have hk3 : k + (toV B x).length ≤ B.length := by omega
      clear hkey hlk hv hat hrg2 hg2 hc hst h0 hb2 hwx
      go_wp2
      go_roundw
      case rel => exact ⟨fun z => left z && !z.sameKey (.int .i64 x), cnt2, k + (toV B x).length, HR2.out, by go_num, HK2.out, HB2.out⟩
      case measure => rw [World.ranges.left_eq HR2.out, World.ranges.left_eq HR.out]; exact hlt
theorem len_box {w : World} {S : Nat → Prop} {b N : Nat} {B : List Msg} (hX : BX w S b N B) (hl : B.length ≤ 9223372036854775807) :
    Calls Try.prog 30 #[.pointer (some ⟨b, 0, none⟩)] w fun e w' => e = .returned (.int .i64 B.length) ∧ Below w.heap.size w w' := by
  obtain ⟨⟨mv, h1, h2⟩, h3⟩ := hX
  rcases h2 with ⟨rfl, h⟩ | ⟨M, D, rfl, h⟩
  · subst h
    have HB : Hid _ := h1
    clear h1
    have hrg := run_range_nilMap (P := Try.prog) w 113 _ _ Try.underlying113
    have hnx : ∀ ty, (Instr.next (.pointer (some ⟨w.heap.size, 0, none⟩)) false ty).run Try.prog (w.alloc (.mapIter none 0 #[] 0)) = _ := fun ty => run_next_nilMap _ ty 0 0 #[]
    go_enter Try.func30, Try.ntmps30
    go_wp2_with (go_at_call 58; refine (held_box HB.out).mono ?_; rintro e w1 ⟨rfl, rfl⟩)
    refine wp_loop_rounds 1 ?_
    rw [rounds_succ]
    go_wp2
    go_ret
    exact ⟨rfl, (Below.refl _ _).alloc (Nat.le_refl _) _⟩
  · exact len_some h1 h hl
end Go.Proofs.Ytfajkfngjfhkoaa
