/- Put together out of Xe, Ya, Yb, Xf, Xg. -/
import Derived.Test.YtkcbljmjhlnjpaaQ01
namespace Go.Proofs.Ytkcbljmjhlnjpaa
open Go.RowKit
set_option maxRecDepth 100000 in
set_option maxHeartbeats 2000000 in
theorem vCount (l : List (Nat × Nat)) (ao : Option Addr) (c x : Nat) (u : World) (h : DAt u l ao) : Calls Try.prog 133 #[.slice ao l.length c, .int .u32 (x : Int)] u fun e u' => e = .returned (.int .u64 (V.cntV l x : Nat)) ∧ Below u.heap.size u u' := by
  have HV := hide (vValid l ao c u h)
  have HQ := hide h.lies
  obtain ⟨N, hN⟩ : ∃ N, N = u.heap.size := ⟨_, rfl⟩
  have HN := hide hN
  rw [← hN] at HV ⊢
  clear hN
  cases hok : V.okB l with
  | false =>
    rw [show V.cntV l x = 0 by unfold V.cntV; rw [hok]; rfl]
    rw [hok] at HV
    go_enter Try.func133, Try.ntmps133
    go_wp2_with (first | (go_at_call 122; refine (unhide HV).mono ?_; rintro e w1 ⟨rfl, hb1⟩) | fail)
    go_ret
    exact ⟨rfl, hb1⟩
  | true =>
    have hl64 : l.length ≤ 64 := (V.okB_true.1 hok).len
    rw [show V.cntV l x = V.cnt l x by unfold V.cntV; rw [hok]; rfl]
    rw [hok] at HV
    have HA : Hid (∀ i (hi : i < l.length), (∀ j (hj : j < l.length), j < i → l[j].1 ≠ x) → l[i].1 = x → V.cnt l x = l[i].2) := fun i hi hn he => by
      rw [← he]; exact V.cnt_at hi fun j hj hji => by rw [he]; exact hn j hj hji
    have HZ : Hid ((∀ j (hj : j < l.length), l[j].1 ≠ x) → V.cnt l x = 0) := fun hn => V.cnt_none hn
    generalize V.cnt l x = r at *
    obtain ⟨n, hn⟩ : ∃ n, n = l.length := ⟨_, rfl⟩
    have HLN := hide hn
    rw [← hn] at hl64 HV ⊢
    have h64i : (n : Int) ≤ 64 := by omega
    clear hn h hok
    go_enter Try.func133, Try.ntmps133
    go_wp2_with (first | (go_at_call 122; refine (unhide HV).mono ?_; rintro e w1 ⟨rfl, hb1⟩; have HB0 := hide hb1; clear hb1) | fail)
    go_loopw [12] (fun i wr => ∃ k : Nat, k ≤ n ∧ i = .int .i64 k ∧ Hid (Below N u wr ∧ ∀ j (hj : j < l.length), j < k → l[j].1 ≠ x)) (fun i _ => n - (intOf i).toNat)
    case atStart => exact ⟨0, Nat.zero_le _, rfl, unhide HB0, fun j _ hj => absurd hj (Nat.not_lt_zero _)⟩
    case round =>
      obtain ⟨k, hk, rfl, HI⟩ := hrel
      by_cases hlt : k < n
      · have hki : (k : Int) < (n : Int) := by omega
        have hkl : k < l.length := by rw [← unhide HLN]; exact hlt
        obtain ⟨g, o, hao, c1, c2⟩ := ((unhide HQ).below (by rw [← unhide HN]; exact (unhide HI).1)).dt hkl
        subst hao
        have hix := ixD g o n c k hlt
        obtain ⟨M, hM⟩ : ∃ M, M = wr.heap.size := ⟨_, rfl⟩
        have HM := hide hM
        have HMN : Hid (N ≤ M) := by rw [hM, unhide HN]; exact (unhide HI).1.size
        clear hM
        have HK : Hid (∀ W : World, Below M wr W → Below N u W) := fun W hW => (unhide HI).1.trans (hW.mono (unhide HMN))
        have HR : Hid (l[k].1 ≠ x → ∀ j (hj : j < l.length), j < k + 1 → l[j].1 ≠ x) := fun hg j hj hjk => by
          rcases Nat.lt_succ_iff_lt_or_eq.1 hjk with h | rfl
          · exact (unhide HI).2 j hj h
          · exact hg
        have HA1 := hide (unhide HA k hkl (unhide HI).2)
        generalize l[k] = q at *
        obtain ⟨qa, qc⟩ := q
        have c1 : wr.cell? ⟨g, o + k * 2, none⟩ = some (.int .u32 (qa : Int)) := c1
        have c2 : wr.cell? ⟨g, o + k * 2 + 1, none⟩ = some (.int .u64 (qc : Int)) := c2
        clear HI HA
        generalize o + k * 2 = oo at *
        by_cases hax : qa = x
        · have HRV := hide (unhide HA1 hax)
          subst hax
          go_wp2_with (first
            | ((with_reducible refine wpList_alloc_dot (by rfl) (by rfl) (some 6) (by rfl) M (unhide HM) ?_); intro W1 HX1 HB1 HS1; simp only [Act.put, List.setIfInBounds_toArray, List.set_cons_zero, List.set_cons_succ])
            | ((with_reducible refine wpList_store_dot (by rfl) (.tmp 6) (.tmp 15) (by rfl) M (qa : Int) (qc : Int) (by with_unfolding_all rfl) (by with_unfolding_all rfl) (unhide HX1) ?_); intro W2 HX2 HE2; simp only [Act.put]; obtain ⟨y0, y1⟩ := box2 (unhide HX2))
            | fail)
          go_ret
          exact ⟨by rw [unhide HRV]; rfl, unhide HK _ (by rw [unhide HE2]; exact belowRow (unhide HB1) (Nat.le_refl _) _)⟩
        · have hxi : ¬ (qa : Int) = (x : Int) := by omega
          go_wp2_with (first
            | ((with_reducible refine wpList_alloc_dot (by rfl) (by rfl) (some 6) (by rfl) M (unhide HM) ?_); intro W1 HX1 HB1 HS1; simp only [Act.put, List.setIfInBounds_toArray, List.set_cons_zero, List.set_cons_succ])
            | ((with_reducible refine wpList_store_dot (by rfl) (.tmp 6) (.tmp 15) (by rfl) M (qa : Int) (qc : Int) (by with_unfolding_all rfl) (by with_unfolding_all rfl) (unhide HX1) ?_); intro W2 HX2 HE2; simp only [Act.put]; obtain ⟨y0, y1⟩ := box2 (unhide HX2))
            | fail)
          go_roundw
          case rel => exact ⟨k + 1, by omega, by go_num, unhide HK _ (by rw [unhide HE2]; exact belowRow (unhide HB1) (Nat.le_refl _) _), unhide HR hax⟩
          case measure => simp [intOf]; omega
      · obtain rfl : k = n := by omega
        have hki : ¬ (k : Int) < (k : Int) := by omega
        have HRV := hide (unhide HZ fun j hj => (unhide HI).2 j hj (by rw [unhide HLN]; exact hj))
        go_wp2
        go_ret
        exact ⟨by rw [unhide HRV]; rfl, (unhide HI).1⟩
/-- is a dot covered -/
noncomputable def covB (l : List (Nat × Nat)) (d : Nat × Nat) : Bool := decide (1 ≤ d.2 ∧ d.2 ≤ V.cntV l d.1)
set_option maxRecDepth 100000 in
set_option maxHeartbeats 2000000 in
theorem vCovers (l : List (Nat × Nat)) (ao : Option Addr) (c : Nat) (d : Nat × Nat) (u : World) (h : DAt u l ao) : Calls Try.prog 124 #[.slice ao l.length c, .agg #[.int .u32 (d.1 : Int), .int .u64 (d.2 : Int)]] u fun e u' => e = .returned (.bool (covB l d)) ∧ Below u.heap.size u u' := by
  obtain ⟨qa, qc⟩ := d
  have HC := hide (fun (w : World) (hw : Below u.heap.size u w) => vCount l ao c qa w (h.below hw))
  show Calls Try.prog 124 #[.slice ao l.length c, .agg #[.int .u32 (qa : Int), .int .u64 (qc : Int)]] u _
  have HE : Hid (covB l (qa, qc) = decide (1 ≤ qc ∧ qc ≤ V.cntV l qa)) := rfl
  rw [unhide HE]
  obtain ⟨N, hN⟩ : ∃ N, N = u.heap.size := ⟨_, rfl⟩
  have HN := hide hN
  rw [← hN] at HC ⊢
  clear hN h HE
  generalize V.cntV l qa = m at *
  generalize l.length = n at *
  by_cases h1 : 1 ≤ qc
  · have h1i : (1 : Int) ≤ (qc : Int) := by omega
    obtain ⟨r, hr⟩ : ∃ r, r = decide (qc ≤ m) := ⟨_, rfl⟩
    have HR : Hid (decide (1 ≤ qc ∧ qc ≤ m) = r) := by rw [hr]; simp [h1, Hid]
    rw [unhide HR]
    have hr2 : decide ((qc : Int) ≤ (m : Int)) = r := by rw [hr]; simp
    have hr3 : decide (qc ≤ m) = r := hr.symm
    clear hr HR
    go_enter Try.func124, Try.ntmps124
    go_wp2_with (first
      | ((with_reducible refine wpList_box_dot (by rfl) (.tmp 1) (by rfl) (some 3) (by rfl) N (unhide HN) (qa : Int) (qc : Int) (by with_unfolding_all rfl) ?_); intro W1 HX1 HB1 HS1; simp only [Act.put, List.setIfInBounds_toArray, List.set_cons_zero, List.set_cons_succ]; obtain ⟨y0, y1⟩ := box2 (unhide HX1))
      | fail)
    go_region_held3 (fun v => v.cell? ⟨N, 0, none⟩ = some (.int .u32 (qa : Int)) ∧ v.cell? ⟨N, 1, none⟩ = some (.int .u64 (qc : Int))) (first | exact ⟨y0, y1⟩ | exact ⟨z0, z1⟩ | (go_keep; done)) (first
      | (go_at_call 133; refine (unhide HC _ (belowDrew (unhide HB1))).mono ?_; rintro e w2 ⟨rfl, hb2⟩; obtain ⟨z0, z1⟩ := box2 (box_below (W := W1.drew) (unhide HX1) hb2); have HB2 : Hid (Below N u w2) := (belowDrew (unhide HB1)).trans (hb2.mono (show N ≤ W1.heap.size by rw [unhide HS1]; omega)); clear hb2)
      | fail)
    go_wp2
    go_ret
    exact ⟨rfl, unhide HB2⟩
  · have h1i : ¬ (1 : Int) ≤ (qc : Int) := by omega
    have HR : Hid (decide (1 ≤ qc ∧ qc ≤ m) = false) := by simp only [Hid, decide_eq_false_iff_not]; omega
    rw [unhide HR]
    have hr2 : decide ((1 : Int) ≤ (qc : Int)) = false := decide_eq_false h1i
    have hr3 : decide (1 ≤ qc) = false := decide_eq_false h1
    clear HR h1i h1
    go_enter Try.func124, Try.ntmps124
    go_wp2_with (first
      | ((with_reducible refine wpList_box_dot (by rfl) (.tmp 1) (by rfl) (some 3) (by rfl) N (unhide HN) (qa : Int) (qc : Int) (by with_unfolding_all rfl) ?_); intro W1 HX1 HB1 HS1; simp only [Act.put, List.setIfInBounds_toArray, List.set_cons_zero, List.set_cons_succ]; obtain ⟨y0, y1⟩ := box2 (unhide HX1))
      | fail)
    go_quiet (fail)
    go_wp2
    go_ret
    exact ⟨rfl, belowDrewN (unhide HB1) _⟩
/-- what Next answers -/
noncomputable def nextV (l : List (Nat × Nat)) (x : Nat) : (Nat × Nat) × Int := if V.okB l then (if V.cnt l x = 1099511627776 then ((0, 0), 101) else ((x, V.cnt l x + 1), 0)) else ((0, 0), 100)
end Go.Proofs.Ytkcbljmjhlnjpaa
namespace Go.Proofs.Ytkcbljmjhlnjpaa
open Go.RowKit
/-- is one text below another -/
def lt (a b : ByteArray) : Bool := Op.bytesLess a.toList b.toList
theorem bl_irrefl : ∀ x : List UInt8, Op.bytesLess x x = false
  | [] => rfl
  | a :: x => by simp [Op.bytesLess, bl_irrefl x]
theorem bl_trans : ∀ x y z : List UInt8, Op.bytesLess x y = true → Op.bytesLess y z = true → Op.bytesLess x z = true
  | [], [], _, h, _ => by simp [Op.bytesLess] at h
  | [], _ :: _, [], _, h => by simp [Op.bytesLess] at h
  | [], _ :: _, _ :: _, _, _ => by simp [Op.bytesLess]
  | _ :: _, [], _, h, _ => by simp [Op.bytesLess] at h
  | _ :: _, _ :: _, [], _, h => by simp [Op.bytesLess] at h
  | a :: x, b :: y, c :: z, h1, h2 => by
    simp only [Op.bytesLess, Bool.or_eq_true, decide_eq_true_eq, Bool.and_eq_true, beq_iff_eq] at h1 h2 ⊢
    rcases h1 with h1 | ⟨rfl, h1⟩ <;> rcases h2 with h2 | ⟨rfl, h2⟩
    · exact .inl (UInt8.lt_trans h1 h2)
    · exact .inl h1
    · exact .inl h2
    · exact .inr ⟨rfl, bl_trans x y z h1 h2⟩
theorem bl_total : ∀ x y : List UInt8, Op.bytesLess x y = false → Op.bytesLess y x = false → x = y
  | [], [], _, _ => rfl
  | [], _ :: _, h, _ => by simp [Op.bytesLess] at h
  | _ :: _, [], _, h => by simp [Op.bytesLess] at h
  | a :: x, b :: y, h1, h2 => by
    simp only [Op.bytesLess, Bool.or_eq_false_iff, decide_eq_false_iff_not, Bool.and_eq_false_iff, beq_eq_false_iff_ne, ne_eq] at h1 h2
    have e : a = b := UInt8.le_antisymm (UInt8.not_lt.1 h2.1) (UInt8.not_lt.1 h1.1)
    subst e
    rw [bl_total x y (h1.2.resolve_left (fun h => h rfl)) (h2.2.resolve_left (fun h => h rfl))]
theorem ba_list {a b : ByteArray} (h : a.toList = b.toList) : a = b := by
  have hx : ∀ x : ByteArray, x.toList = x.data.toList := fun x => by rw [ByteArray.toList_eq]
  rw [hx, hx] at h
  cases a; cases b
  congr 1
  exact Array.ext' h
theorem lt_irrefl (a : ByteArray) : lt a a = false := bl_irrefl _
theorem lt_trans {a b c : ByteArray} (h1 : lt a b = true) (h2 : lt b c = true) : lt a c = true := bl_trans _ _ _ h1 h2
theorem lt_total {a b : ByteArray} (h1 : lt a b = false) (h2 : lt b a = false) : a = b := ba_list (bl_total _ _ h1 h2)
theorem lt_asymm {a b : ByteArray} (h1 : lt a b = true) : lt b a = false := by
  cases h : lt b a
  · rfl
  · have := lt_trans h1 h; rw [lt_irrefl] at this; cases this

/-- a sibling -/
structure Sb where
  a : Nat
  c : Nat
  gone : Bool
  val : ByteArray
theorem Sb.ext' {x y : Sb} (h1 : x.a = y.a) (h2 : x.c = y.c) (h3 : x.gone = y.gone) (h4 : x.val = y.val) : x = y := by cases x; cases y; simp_all
def Sb.dot (x : Sb) : Nat × Nat := (x.a, x.c)
/-- one dot ahead of another -/
def ah (d e : Nat × Nat) : Prop := d.1 < e.1 ∨ d.1 = e.1 ∧ d.2 < e.2
instance (d e : Nat × Nat) : Decidable (ah d e) := by unfold ah; infer_instance
theorem ah_irrefl (d : Nat × Nat) : ¬ ah d d := by unfold ah; omega
theorem ah_trans {d e f : Nat × Nat} (h1 : ah d e) (h2 : ah e f) : ah d f := by unfold ah at *; omega
theorem ah_asymm {d e : Nat × Nat} (h1 : ah d e) : ¬ ah e d := by unfold ah at *; omega
theorem ah_total {d e : Nat × Nat} (h1 : ¬ ah d e) (h2 : d ≠ e) : ah e d := by
  unfold ah at *
  have : d.1 ≠ e.1 ∨ d.2 ≠ e.2 := by
    by_cases h : d.1 = e.1
    · exact .inr fun h3 => h2 (Prod.ext h h3)
    · exact .inl h
  omega
/-- may a sibling's content be -/
def Sb.may (x : Sb) : Prop := if x.gone then x.val.size = 0 else x.val.size ≤ 40
/-- has x the lesser content -/
def cl (x y : Sb) : Bool := if x.gone = y.gone then lt x.val y.val else x.gone
/-- the one of two with the lesser content -/
def less (x y : Sb) : Sb := if cl y x then y else x
/-- a state -/
structure St where
  seen : List (Nat × Nat)
  sibs : List Sb
/-- covered -/
def cov (l : List (Nat × Nat)) (d : Nat × Nat) : Prop := 1 ≤ d.2 ∧ d.2 ≤ V.cnt l d.1
instance (l : List (Nat × Nat)) (d : Nat × Nat) : Decidable (cov l d) := by unfold cov; infer_instance
def Rise (l : List Sb) : Prop := l.Pairwise fun x y => ah x.dot y.dot
structure SV (s : St) : Prop where
  vec : V.Vec s.seen
  up : Rise s.sibs
  cvd : ∀ x ∈ s.sibs, cov s.seen x.dot
  may : ∀ x ∈ s.sibs, x.may
structure SOk (s : St) : Prop extends SV s where
  slen : s.seen.length ≤ 64
  len : s.sibs.length ≤ 64
theorem SOk.ok {s : St} (h : SOk s) : V.Ok s.seen := ⟨h.vec, h.slen⟩
open Classical in
noncomputable def sokB (s : St) : Bool := decide (SOk s)
open Classical in
theorem sokB_true {s : St} : sokB s = true ↔ SOk s := by unfold sokB; exact decide_eq_true_iff
open Classical in
theorem sokB_false {s : St} : sokB s = false ↔ ¬ SOk s := by unfold sokB; exact decide_eq_false_iff_not
theorem covB_ok {l : List (Nat × Nat)} (h : V.Ok l) (d : Nat × Nat) : covB l d = decide (cov l d) := by
  unfold covB cov V.cntV; rw [V.okB_true.2 h]; rfl

/-- what a state says of a dot -/
inductive Say where
  | unseen
  | there (g : Bool) (v : ByteArray)
  | over
/-- the content (g, v) is below (g', v') -/
def ctl (g : Bool) (v : ByteArray) (g' : Bool) (v' : ByteArray) : Bool := if g = g' then lt v v' else g
theorem ctl_irrefl (g : Bool) (v : ByteArray) : ctl g v g v = false := by unfold ctl; simp [lt_irrefl]
theorem ctl_trans {a b c : Bool} {x y z : ByteArray} (h1 : ctl a x b y = true) (h2 : ctl b y c z = true) : ctl a x c z = true := by
  cases a <;> cases b <;> cases c <;> simp [ctl] at * <;> exact lt_trans h1 h2
theorem ctl_total {a b : Bool} {x y : ByteArray} (h1 : ctl a x b y = false) (h2 : ctl b y a x = false) : a = b ∧ x = y := by
  cases a <;> cases b <;> simp [ctl] at * <;> exact lt_total h1 h2
theorem ctl_asymm {a b : Bool} {x y : ByteArray} (h : ctl a x b y = true) : ctl b y a x = false := by
  cases h2 : ctl b y a x
  · rfl
  · have := ctl_trans h h2; rw [ctl_irrefl] at this; cases this
/-- the one is not later than the other -/
def Say.le : Say → Say → Prop
  | .unseen, _ => True
  | .there _ _, .unseen => False
  | .there g v, .there g' v' => ctl g v g' v' = false
  | .there _ _, .over => True
  | .over, .over => True
  | .over, _ => False
theorem Say.le_refl (a : Say) : a.le a := by cases a <;> simp [Say.le, ctl_irrefl]
theorem Say.le_trans {a b c : Say} (h1 : a.le b) (h2 : b.le c) : a.le c := by
  cases a <;> cases b <;> cases c <;> simp [Say.le] at *
  rename_i a x b y c z
  cases h : ctl a x c z
  · rfl
  · exfalso
    cases h3 : ctl b y a x
    · obtain ⟨rfl, rfl⟩ := ctl_total h1 h3; rw [h2] at h; cases h
    · have := ctl_trans h3 h; rw [h2] at this; cases this
theorem Say.le_antisymm {a b : Say} (h1 : a.le b) (h2 : b.le a) : a = b := by
  cases a <;> cases b <;> simp [Say.le] at *
  exact ctl_total h1 h2
theorem Say.le_total (a b : Say) : a.le b ∨ b.le a := by
  cases a <;> cases b <;> simp [Say.le]
  rename_i a x b y
  cases h : ctl a x b y
  · exact .inl rfl
  · exact .inr (ctl_asymm h)
open Classical in
/-- the later one of two -/
noncomputable def Say.later (a b : Say) : Say := if a.le b then b else a
theorem Say.le_later_l (a b : Say) : a.le (a.later b) := by
  unfold Say.later; split
  · assumption
  · exact Say.le_refl _
theorem Say.le_later_r (a b : Say) : b.le (a.later b) := by
  unfold Say.later; split
  · exact Say.le_refl _
  · rcases Say.le_total a b with h | h
    · contradiction
    · exact h
theorem Say.later_le {a b c : Say} (h1 : a.le c) (h2 : b.le c) : (a.later b).le c := by unfold Say.later; split <;> assumption
theorem Say.later_comm (a b : Say) : a.later b = b.later a :=
  Say.le_antisymm (Say.later_le (Say.le_later_r _ _) (Say.le_later_l _ _)) (Say.later_le (Say.le_later_r _ _) (Say.le_later_l _ _))
theorem Say.later_assoc (a b c : Say) : (a.later b).later c = a.later (b.later c) :=
  Say.le_antisymm (Say.later_le (Say.later_le (Say.le_later_l _ _) (Say.le_trans (Say.le_later_l _ _) (Say.le_later_r _ _))) (Say.le_trans (Say.le_later_r _ _) (Say.le_later_r _ _)))
    (Say.later_le (Say.le_trans (Say.le_later_l _ _) (Say.le_later_l _ _)) (Say.later_le (Say.le_trans (Say.le_later_r _ _) (Say.le_later_l _ _)) (Say.le_later_r _ _)))
theorem Say.later_self (a : Say) : a.later a = a := by unfold Say.later; split <;> rfl
theorem Say.later_eq_iff {a b : Say} : a.later b = b ↔ a.le b := by
  constructor
  · intro h; rw [← h]; exact Say.le_later_l _ _
  · intro h; unfold Say.later; rw [if_pos h]
theorem Say.later_unseen (a : Say) : a.later .unseen = a := by rw [Say.later_comm, Say.later_eq_iff]; trivial
theorem Say.unseen_later (a : Say) : Say.later .unseen a = a := Say.later_eq_iff.2 trivial
theorem Say.over_later (a : Say) : Say.later .over a = .over := by rw [Say.later_comm, Say.later_eq_iff]; cases a <;> trivial
theorem Say.later_over (a : Say) : a.later .over = .over := by rw [Say.later_eq_iff]; cases a <;> trivial

def says (s : St) (d : Nat × Nat) : Say :=
  match s.sibs.find? (fun x => decide (x.dot = d)) with
  | some x => .there x.gone x.val
  | none => if cov s.seen d then .over else .unseen
theorem rise_uniq {l : List Sb} (h : Rise l) {x y : Sb} (hx : x ∈ l) (hy : y ∈ l) (he : x.dot = y.dot) : x = y := by
  induction l with
  | nil => cases hx
  | cons z l ih =>
    have hz := List.pairwise_cons.1 h
    rcases List.mem_cons.1 hx with e1 | h1 <;> rcases List.mem_cons.1 hy with e2 | h2
    · rw [e1, e2]
    · exact absurd (hz.1 _ h2) (by rw [← e1, he]; exact ah_irrefl _)
    · exact absurd (hz.1 _ h1) (by rw [← e2, he]; exact ah_irrefl _)
    · exact ih hz.2 h1 h2
theorem says_mem {s : St} (h : Rise s.sibs) {x : Sb} (hx : x ∈ s.sibs) : says s x.dot = .there x.gone x.val := by
  unfold says
  cases hf : s.sibs.find? (fun y => decide (y.dot = x.dot)) with
  | none => exact absurd (List.find?_eq_none.1 hf x hx) (by simp)
  | some y =>
    have h1 := List.mem_of_find?_eq_some hf
    have h2 := List.find?_some hf
    have : y = x := rise_uniq h h1 hx (by simpa using h2)
    rw [this]
theorem says_not {s : St} {d : Nat × Nat} (h : ∀ x ∈ s.sibs, x.dot ≠ d) : says s d = if cov s.seen d then .over else .unseen := by
  unfold says
  rw [List.find?_eq_none.2 fun x hx => by simp [h x hx]]
theorem says_there {s : St} {d : Nat × Nat} {g : Bool} {v : ByteArray} (h : says s d = .there g v) : ⟨d.1, d.2, g, v⟩ ∈ s.sibs := by
  unfold says at h
  cases hf : s.sibs.find? (fun y => decide (y.dot = d)) with
  | none => rw [hf] at h; simp only at h; split at h <;> cases h
  | some y =>
    rw [hf] at h
    simp only [Say.there.injEq] at h
    have h1 := List.mem_of_find?_eq_some hf
    have h2 := List.find?_some hf
    simp only [decide_eq_true_eq] at h2
    have : (⟨d.1, d.2, g, v⟩ : Sb) = y := by rw [← h2]; exact Sb.ext' rfl rfl h.1.symm h.2.symm
    rw [this]; exact h1
theorem says_cases (s : St) (d : Nat × Nat) : (∃ x ∈ s.sibs, x.dot = d) ∨ (∀ x ∈ s.sibs, x.dot ≠ d) := by
  by_cases h : ∃ x ∈ s.sibs, x.dot = d
  · exact .inl h
  · exact .inr fun x hx e => h ⟨x, hx, e⟩
theorem SV.says_unseen {s : St} (h : SV s) (d : Nat × Nat) : says s d = .unseen ↔ ¬ cov s.seen d := by
  rcases says_cases s d with ⟨x, hx, rfl⟩ | hn
  · rw [says_mem h.up hx]
    exact ⟨fun h => (by cases h), fun hc => absurd (h.cvd x hx) hc⟩
  · rw [says_not hn]
    by_cases hc : cov s.seen d
    · rw [if_pos hc]; exact ⟨fun h => (by cases h), fun h => absurd hc h⟩
    · rw [if_neg hc]; exact ⟨fun _ => hc, fun _ => rfl⟩
/-- two rising lists with the same siblings are one -/
theorem rise_ext {l m : List Sb} (hl : Rise l) (hm : Rise m) (h : ∀ x, x ∈ l ↔ x ∈ m) : l = m := by
  induction l generalizing m with
  | nil =>
    cases m with
    | nil => rfl
    | cons y m => exact absurd ((h y).2 (List.mem_cons_self ..)) (by simp)
  | cons x l ih =>
    cases m with
    | nil => exact absurd ((h x).1 (List.mem_cons_self ..)) (by simp)
    | cons y m =>
      have hx := List.pairwise_cons.1 hl
      have hy := List.pairwise_cons.1 hm
      have e : x = y := by
        rcases List.mem_cons.1 ((h x).1 (List.mem_cons_self ..)) with e | h1
        · exact e
        · rcases List.mem_cons.1 ((h y).2 (List.mem_cons_self ..)) with e | h2
          · exact e.symm
          · exact absurd (hx.1 _ h2) (ah_asymm (hy.1 _ h1))
      subst e
      rw [ih hx.2 hy.2 fun z => ?_]
      constructor
      · intro hz
        rcases List.mem_cons.1 ((h z).1 (List.mem_cons_of_mem _ hz)) with rfl | h1
        · exact absurd (hx.1 _ hz) (ah_irrefl _)
        · exact h1
      · intro hz
        rcases List.mem_cons.1 ((h z).2 (List.mem_cons_of_mem _ hz)) with rfl | h1
        · exact absurd (hy.1 _ hz) (ah_irrefl _)
        · exact h1
/-- two states that say the same of each dot are one -/
theorem SV.ext {s t : St} (hs : SV s) (ht : SV t) (h : ∀ d, says s d = says t d) : s = t := by
  have e1 : s.seen = t.seen := by
    refine V.ext hs.vec ht.vec fun a => ?_
    have key : ∀ k, cov s.seen (a, k) ↔ cov t.seen (a, k) := fun k => by
      have h1 := hs.says_unseen (a, k)
      have h2 := ht.says_unseen (a, k)
      rw [h] at h1
      by_cases hc : cov s.seen (a, k) <;> by_cases hd : cov t.seen (a, k)
      · exact ⟨fun _ => hd, fun _ => hc⟩
      · exact absurd (h2.2 hd) (fun h3 => h1.1 h3 hc)
      · exact absurd (h1.2 hc) (fun h3 => h2.1 h3 hd)
      · exact ⟨fun x => absurd x hc, fun x => absurd x hd⟩
    have k1 := key (V.cnt s.seen a)
    have k2 := key (V.cnt t.seen a)
    simp only [cov] at k1 k2
    omega
  have e2 : s.sibs = t.sibs := by
    refine rise_ext hs.up ht.up fun x => ?_
    constructor
    · intro hx
      have := says_mem hs.up hx
      rw [h] at this
      exact says_there this
    · intro hx
      have := says_mem ht.up hx
      rw [← h] at this
      exact says_there this
  cases s; cases t; simp_all
end Go.Proofs.Ytkcbljmjhlnjpaa
namespace Go.Proofs.Ytkcbljmjhlnjpaa
open Go.RowKit
/-- those that seen does not cover -/
def uns (seen : List (Nat × Nat)) (l : List Sb) : List Sb := l.filter fun x => !decide (cov seen x.dot)
/-- the siblings of the join: A, B are what both have seen -/
def jn (A B : List (Nat × Nat)) : List Sb → List Sb → List Sb
  | [], ys => uns A ys
  | x :: xs, [] => uns B (x :: xs)
  | x :: xs, y :: ys => if x.dot = y.dot then less x y :: jn A B xs ys
    else if ah x.dot y.dot then uns B [x] ++ jn A B xs (y :: ys) else uns A [y] ++ jn A B (x :: xs) ys
termination_by xs ys => xs.length + ys.length
theorem mem_uns {A : List (Nat × Nat)} {l : List Sb} {z : Sb} : z ∈ uns A l ↔ z ∈ l ∧ ¬ cov A z.dot := by
  unfold uns; rw [List.mem_filter]; simp
theorem less_dot {x y : Sb} (h : x.dot = y.dot) : (less x y).dot = x.dot := by
  unfold less; split
  · exact h.symm
  · rfl
theorem less_mem {x y : Sb} : less x y = x ∨ less x y = y := by
  unfold less; split
  · exact .inr rfl
  · exact .inl rfl
theorem mem_jn {A B : List (Nat × Nat)} {xs ys : List Sb} (hx : Rise xs) (hy : Rise ys) (cx : ∀ x ∈ xs, cov A x.dot) (cy : ∀ y ∈ ys, cov B y.dot) (z : Sb) :
    z ∈ jn A B xs ys ↔ (z ∈ xs ∧ ¬ cov B z.dot) ∨ (z ∈ ys ∧ ¬ cov A z.dot) ∨ ∃ x ∈ xs, ∃ y ∈ ys, x.dot = y.dot ∧ z = less x y := by
  induction xs, ys using jn.induct with
  | case1 ys => rw [jn, mem_uns]; simp
  | case2 x xs => rw [jn, mem_uns]; simp
  | case3 x xs y ys h ih =>
    have px := List.pairwise_cons.1 hx
    have py := List.pairwise_cons.1 hy
    rw [jn, if_pos h, List.mem_cons, ih px.2 py.2 (fun w hw => cx w (List.mem_cons_of_mem _ hw)) (fun w hw => cy w (List.mem_cons_of_mem _ hw))]
    have c1 := cx x (List.mem_cons_self ..)
    have c2 := cy y (List.mem_cons_self ..)
    constructor
    · rintro (rfl | ⟨h1, h2⟩ | ⟨h1, h2⟩ | ⟨p, hp, q, hq, e, r⟩)
      · exact .inr (.inr ⟨x, List.mem_cons_self .., y, List.mem_cons_self .., h, rfl⟩)
      · exact .inl ⟨List.mem_cons_of_mem _ h1, h2⟩
      · exact .inr (.inl ⟨List.mem_cons_of_mem _ h1, h2⟩)
      · exact .inr (.inr ⟨p, List.mem_cons_of_mem _ hp, q, List.mem_cons_of_mem _ hq, e, r⟩)
    · rintro (⟨h1, h2⟩ | ⟨h1, h2⟩ | ⟨p, hp, q, hq, e, r⟩)
      · rcases List.mem_cons.1 h1 with rfl | h1
        · exact absurd (h ▸ c2) h2
        · exact .inr (.inl ⟨h1, h2⟩)
      · rcases List.mem_cons.1 h1 with rfl | h1
        · exact absurd (h ▸ c1) h2
        · exact .inr (.inr (.inl ⟨h1, h2⟩))
      · rcases List.mem_cons.1 hp with rfl | hp <;> rcases List.mem_cons.1 hq with rfl | hq
        · exact .inl r
        · exact absurd (py.1 q hq) (by rw [← h, e]; exact ah_irrefl _)
        · exact absurd (px.1 p hp) (by rw [h, e]; exact ah_irrefl _)
        · exact .inr (.inr (.inr ⟨p, hp, q, hq, e, r⟩))
  | case4 x xs y ys h h2 ih =>
    have px := List.pairwise_cons.1 hx
    have py := List.pairwise_cons.1 hy
    rw [jn, if_neg h, if_pos h2, List.mem_append, mem_uns, ih px.2 hy (fun w hw => cx w (List.mem_cons_of_mem _ hw)) cy]
    constructor
    · rintro (⟨h1, h3⟩ | ⟨h1, h3⟩ | ⟨h1, h3⟩ | ⟨p, hp, q, hq, e, r⟩)
      · exact .inl ⟨by rw [List.mem_singleton.1 h1]; exact List.mem_cons_self .., h3⟩
      · exact .inl ⟨List.mem_cons_of_mem _ h1, h3⟩
      · exact .inr (.inl ⟨h1, h3⟩)
      · exact .inr (.inr ⟨p, List.mem_cons_of_mem _ hp, q, hq, e, r⟩)
    · rintro (⟨h1, h3⟩ | ⟨h1, h3⟩ | ⟨p, hp, q, hq, e, r⟩)
      · rcases List.mem_cons.1 h1 with rfl | h1
        · exact .inl ⟨List.mem_singleton.2 rfl, h3⟩
        · exact .inr (.inl ⟨h1, h3⟩)
      · exact .inr (.inr (.inl ⟨h1, h3⟩))
      · rcases List.mem_cons.1 hp with rfl | hp
        · rcases List.mem_cons.1 hq with rfl | hq
          · exact absurd e h
          · exact absurd (ah_trans h2 (py.1 q hq)) (by rw [e]; exact ah_irrefl _)
        · exact .inr (.inr (.inr ⟨p, hp, q, hq, e, r⟩))
  | case5 x xs y ys h h2 ih =>
    have px := List.pairwise_cons.1 hx
    have py := List.pairwise_cons.1 hy
    have h3' := ah_total h2 h
    rw [jn, if_neg h, if_neg h2, List.mem_append, mem_uns, ih hx py.2 cx (fun w hw => cy w (List.mem_cons_of_mem _ hw))]
    constructor
    · rintro (⟨h1, h3⟩ | ⟨h1, h3⟩ | ⟨h1, h3⟩ | ⟨p, hp, q, hq, e, r⟩)
      · exact .inr (.inl ⟨by rw [List.mem_singleton.1 h1]; exact List.mem_cons_self .., h3⟩)
      · exact .inl ⟨h1, h3⟩
      · exact .inr (.inl ⟨List.mem_cons_of_mem _ h1, h3⟩)
      · exact .inr (.inr ⟨p, hp, q, List.mem_cons_of_mem _ hq, e, r⟩)
    · rintro (⟨h1, h3⟩ | ⟨h1, h3⟩ | ⟨p, hp, q, hq, e, r⟩)
      · exact .inr (.inl ⟨h1, h3⟩)
      · rcases List.mem_cons.1 h1 with rfl | h1
        · exact .inl ⟨List.mem_singleton.2 rfl, h3⟩
        · exact .inr (.inr (.inl ⟨h1, h3⟩))
      · rcases List.mem_cons.1 hq with rfl | hq
        · rcases List.mem_cons.1 hp with rfl | hp
          · exact absurd e h
          · exact absurd (ah_trans h3' (px.1 p hp)) (by rw [e]; exact ah_irrefl _)
        · exact .inr (.inr (.inr ⟨p, hp, q, hq, e, r⟩))
theorem jn_from {A B : List (Nat × Nat)} {xs ys : List Sb} : ∀ z ∈ jn A B xs ys, z ∈ xs ∨ z ∈ ys := by
  induction xs, ys using jn.induct with
  | case1 ys => intro z hz; rw [jn, mem_uns] at hz; exact .inr hz.1
  | case2 x xs => intro z hz; rw [jn, mem_uns] at hz; exact .inl hz.1
  | case3 x xs y ys h ih =>
    intro z hz
    rw [jn, if_pos h] at hz
    rcases List.mem_cons.1 hz with rfl | hz
    · rcases less_mem (x := x) (y := y) with e | e <;> rw [e]
      · exact .inl (List.mem_cons_self ..)
      · exact .inr (List.mem_cons_self ..)
    · rcases ih z hz with h | h
      · exact .inl (List.mem_cons_of_mem _ h)
      · exact .inr (List.mem_cons_of_mem _ h)
  | case4 x xs y ys h h2 ih =>
    intro z hz
    rw [jn, if_neg h, if_pos h2, List.mem_append, mem_uns] at hz
    rcases hz with ⟨h1, _⟩ | hz
    · rw [List.mem_singleton.1 h1]; exact .inl (List.mem_cons_self ..)
    · rcases ih z hz with h | h
      · exact .inl (List.mem_cons_of_mem _ h)
      · exact .inr h
  | case5 x xs y ys h h2 ih =>
    intro z hz
    rw [jn, if_neg h, if_neg h2, List.mem_append, mem_uns] at hz
    rcases hz with ⟨h1, _⟩ | hz
    · rw [List.mem_singleton.1 h1]; exact .inr (List.mem_cons_self ..)
    · rcases ih z hz with h | h
      · exact .inl h
      · exact .inr (List.mem_cons_of_mem _ h)
theorem rise_uns {A : List (Nat × Nat)} {l : List Sb} (h : Rise l) : Rise (uns A l) := List.Pairwise.sublist List.filter_sublist h
theorem rise_app {a b : List Sb} (ha : Rise a) (hb : Rise b) (h : ∀ x ∈ a, ∀ y ∈ b, ah x.dot y.dot) : Rise (a ++ b) := List.pairwise_append.2 ⟨ha, hb, h⟩
theorem rise_jn {A B : List (Nat × Nat)} {xs ys : List Sb} (hx : Rise xs) (hy : Rise ys) : Rise (jn A B xs ys) := by
  induction xs, ys using jn.induct with
  | case1 ys => rw [jn]; exact rise_uns hy
  | case2 x xs => rw [jn]; exact rise_uns hx
  | case3 x xs y ys h ih =>
    have px := List.pairwise_cons.1 hx
    have py := List.pairwise_cons.1 hy
    rw [jn, if_pos h]
    refine List.pairwise_cons.2 ⟨fun z hz => ?_, ih px.2 py.2⟩
    rw [less_dot h]
    rcases jn_from z hz with h1 | h1
    · exact px.1 z h1
    · rw [h]; exact py.1 z h1
  | case4 x xs y ys h h2 ih =>
    have px := List.pairwise_cons.1 hx
    have py := List.pairwise_cons.1 hy
    rw [jn, if_neg h, if_pos h2]
    refine rise_app (rise_uns (List.pairwise_singleton _ _)) (ih px.2 hy) fun p hp z hz => ?_
    rw [List.mem_singleton.1 (mem_uns.1 hp).1]
    rcases jn_from z hz with h1 | h1
    · exact px.1 z h1
    · rcases List.mem_cons.1 h1 with rfl | h1
      · exact h2
      · exact ah_trans h2 (py.1 z h1)
  | case5 x xs y ys h h2 ih =>
    have px := List.pairwise_cons.1 hx
    have py := List.pairwise_cons.1 hy
    have h3 := ah_total h2 h
    rw [jn, if_neg h, if_neg h2]
    refine rise_app (rise_uns (List.pairwise_singleton _ _)) (ih hx py.2) fun p hp z hz => ?_
    rw [List.mem_singleton.1 (mem_uns.1 hp).1]
    rcases jn_from z hz with h1 | h1
    · rcases List.mem_cons.1 h1 with rfl | h1
      · exact h3
      · exact ah_trans h3 (px.1 z h1)
    · exact py.1 z h1
theorem uns_len (A : List (Nat × Nat)) (l : List Sb) : (uns A l).length ≤ l.length := List.length_filter_le _ _
theorem jn_len (A B : List (Nat × Nat)) (xs ys : List Sb) : (jn A B xs ys).length ≤ xs.length + ys.length := by
  induction xs, ys using jn.induct with
  | case1 ys => rw [jn]; have := uns_len A ys; simpa using this
  | case2 x xs => rw [jn]; have := uns_len B (x :: xs); simpa using this
  | case3 x xs y ys h ih => rw [jn, if_pos h]; simp at *; omega
  | case4 x xs y ys h h2 ih => rw [jn, if_neg h, if_pos h2]; have := uns_len B [x]; simp at *; omega
  | case5 x xs y ys h h2 ih => rw [jn, if_neg h, if_neg h2]; have := uns_len A [y]; simp at *; omega
/-- the join, however great -/
def jnS (a b : St) : St := ⟨V.mrg a.seen b.seen, jn a.seen b.seen a.sibs b.sibs⟩
theorem cov_mrg {a b : List (Nat × Nat)} (ha : V.Vec a) (hb : V.Vec b) (d : Nat × Nat) : cov (V.mrg a b) d ↔ cov a d ∨ cov b d := by
  unfold cov; rw [V.cnt_mrg ha hb]; omega
theorem cov_jn {a b : St} (ha : SV a) (hb : SV b) (d : Nat × Nat) : cov (jnS a b).seen d ↔ cov a.seen d ∨ cov b.seen d := cov_mrg ha.vec hb.vec d
theorem jnS_sv {a b : St} (ha : SV a) (hb : SV b) : SV (jnS a b) where
  vec := V.mrg_vec ha.vec hb.vec
  up := rise_jn ha.up hb.up
  cvd x hx := by
    rcases jn_from x hx with h | h
    · exact (cov_mrg ha.vec hb.vec _).2 (.inl (ha.cvd x h))
    · exact (cov_mrg ha.vec hb.vec _).2 (.inr (hb.cvd x h))
  may x hx := by
    rcases jn_from x hx with h | h
    · exact ha.may x h
    · exact hb.may x h
theorem later_of {a b : Say} (h : a.le b) : a.later b = b := Say.later_eq_iff.2 h
theorem less_later {x y : Sb} : Say.there (less x y).gone (less x y).val = (Say.there x.gone x.val).later (.there y.gone y.val) := by
  have e : cl y x = ctl y.gone y.val x.gone x.val := rfl
  cases h : ctl y.gone y.val x.gone x.val
  · rw [show less x y = x by unfold less; rw [e, h]; rfl, Say.later_comm, later_of]
    exact h
  · rw [show less x y = y by unfold less; rw [e, h]; rfl, later_of]
    exact ctl_asymm h
/-- of each dot the join says the later one -/
theorem says_jn {a b : St} (ha : SV a) (hb : SV b) (d : Nat × Nat) : says (jnS a b) d = (says a d).later (says b d) := by
  have hj := jnS_sv ha hb
  have hm := mem_jn ha.up hb.up ha.cvd hb.cvd
  rcases says_cases a d with ⟨x, hx, rfl⟩ | hna
  · rw [says_mem ha.up hx]
    rcases says_cases b x.dot with ⟨y, hy, he⟩ | hnb
    · have : less x y ∈ (jnS a b).sibs := (hm _).2 (.inr (.inr ⟨x, hx, y, hy, he.symm, rfl⟩))
      have h2 := says_mem hj.up this
      rw [less_dot he.symm] at h2
      rw [h2, ← he, says_mem hb.up hy, less_later]
    · by_cases hc : cov b.seen x.dot
      · rw [says_not hnb, if_pos hc, Say.later_over]
        rw [says_not (s := jnS a b), if_pos ((cov_jn ha hb _).2 (.inl (ha.cvd x hx)))]
        intro z hz e
        rcases (hm z).1 hz with ⟨_, h2⟩ | ⟨h1, _⟩ | ⟨p, hp, q, hq, e2, r⟩
        · exact h2 (e ▸ hc)
        · exact hnb z h1 e
        · subst r
          rw [less_dot e2] at e
          exact hnb q hq (e2 ▸ e)
      · rw [says_not hnb, if_neg hc, Say.later_unseen]
        exact says_mem hj.up ((hm x).2 (.inl ⟨hx, hc⟩))
  · rw [says_not hna]
    rcases says_cases b d with ⟨y, hy, rfl⟩ | hnb
    · rw [says_mem hb.up hy]
      by_cases hc : cov a.seen y.dot
      · rw [if_pos hc, Say.over_later]
        rw [says_not (s := jnS a b), if_pos ((cov_jn ha hb _).2 (.inl hc))]
        intro z hz e
        rcases (hm z).1 hz with ⟨h1, _⟩ | ⟨_, h2⟩ | ⟨p, hp, q, hq, e2, r⟩
        · exact hna z h1 e
        · exact h2 (e ▸ hc)
        · subst r
          rw [less_dot e2] at e
          exact hna p hp e
      · rw [if_neg hc, Say.unseen_later]
        exact says_mem hj.up ((hm y).2 (.inr (.inl ⟨hy, hc⟩)))
    · rw [says_not hnb, says_not (s := jnS a b)]
      · have := cov_jn ha hb d
        by_cases h1 : cov a.seen d <;> by_cases h2 : cov b.seen d
        · rw [if_pos (this.2 (.inl h1)), if_pos h1, if_pos h2, Say.later_self]
        · rw [if_pos (this.2 (.inl h1)), if_pos h1, if_neg h2, Say.later_unseen]
        · rw [if_pos (this.2 (.inr h2)), if_neg h1, if_pos h2, Say.unseen_later]
        · rw [if_neg (fun h => (this.1 h).elim h1 h2), if_neg h1, if_neg h2, Say.later_self]
      · intro z hz e
        rcases jn_from z hz with h | h
        · exact hna z h e
        · exact hnb z h e
/-- the order -/
def sbel (a b : St) : Prop := ∀ d, (says a d).le (says b d)
theorem jnS_eq_iff {a b : St} (ha : SV a) (hb : SV b) : jnS a b = b ↔ sbel a b := by
  constructor
  · intro h d
    have := says_jn ha hb d
    rw [h] at this
    rw [this]; exact Say.le_later_l _ _
  · intro h
    exact SV.ext (jnS_sv ha hb) hb fun d => by rw [says_jn ha hb, Say.later_eq_iff]; exact h d
theorem jnS_comm {a b : St} (ha : SV a) (hb : SV b) : jnS a b = jnS b a := SV.ext (jnS_sv ha hb) (jnS_sv hb ha) fun d => by rw [says_jn ha hb, says_jn hb ha, Say.later_comm]
theorem jnS_assoc {a b c : St} (ha : SV a) (hb : SV b) (hc : SV c) : jnS (jnS a b) c = jnS a (jnS b c) :=
  SV.ext (jnS_sv (jnS_sv ha hb) hc) (jnS_sv ha (jnS_sv hb hc)) fun d => by rw [says_jn (jnS_sv ha hb) hc, says_jn ha (jnS_sv hb hc), says_jn ha hb, says_jn hb hc, Say.later_assoc]
theorem jnS_self {a : St} (ha : SV a) : jnS a a = a := (jnS_eq_iff ha ha).2 fun _ => Say.le_refl _
theorem sbel_trans {a b c : St} (h1 : sbel a b) (h2 : sbel b c) : sbel a c := fun d => Say.le_trans (h1 d) (h2 d)
theorem sbel_antisymm {a b : St} (ha : SV a) (hb : SV b) (h1 : sbel a b) (h2 : sbel b a) : a = b := SV.ext ha hb fun d => Say.le_antisymm (h1 d) (h2 d)
theorem sbel_jn_l {a b : St} (ha : SV a) (hb : SV b) : sbel a (jnS a b) := fun d => by rw [says_jn ha hb]; exact Say.le_later_l _ _
theorem sbel_jn_r {a b : St} (ha : SV a) (hb : SV b) : sbel b (jnS a b) := fun d => by rw [says_jn ha hb]; exact Say.le_later_r _ _
theorem jn_sbel {a b c : St} (ha : SV a) (hb : SV b) (h1 : sbel a c) (h2 : sbel b c) : sbel (jnS a b) c := fun d => by rw [says_jn ha hb]; exact Say.later_le (h1 d) (h2 d)
/-- what was never there -/
def St.none : St := ⟨[], []⟩
theorem none_ok : SOk St.none := ⟨⟨V.vec_nil, List.Pairwise.nil, fun x hx => (by cases hx), fun x hx => (by cases hx)⟩, Nat.zero_le _, Nat.zero_le _⟩
theorem says_none (d : Nat × Nat) : says St.none d = .unseen := by
  rw [says_not fun x hx => (by cases hx), if_neg]
  unfold cov St.none; simp only [V.cnt]; omega
theorem jnS_none {a : St} (ha : SV a) : jnS a St.none = a := SV.ext (jnS_sv ha none_ok.toSV) ha fun d => by rw [says_jn ha none_ok.toSV, says_none, Say.later_unseen]
open Classical in
/-- what Join answers -/
noncomputable def joinV (a b : St) : St × Int := if sokB a && sokB b then (if (V.mrg a.seen b.seen).length ≤ 64 ∧ (jnS a b).sibs.length ≤ 64 then (jnS a b, 0) else (St.none, 82)) else (St.none, 110)
open Classical in
/-- what Below answers -/
noncomputable def sbelB (a b : St) : Bool := decide (SOk a ∧ SOk b ∧ sbel a b)
end Go.Proofs.Ytkcbljmjhlnjpaa
namespace Go.Proofs.Ytkcbljmjhlnjpaa
open Go.RowKit

theorem cNan (x : Int) (w : World) : Calls Try.prog 166 #[.int .u32 x] w fun e w' => e = .returned (.bool false) ∧ w' = w := by
  go_enter Try.func166, Try.ntmps166
  go_wp2
  go_ret
  exact ⟨by simp, rfl⟩
/-- how two numbers stand -/
def ordI (x y : Nat) : Int := if x < y then -1 else if y < x then 1 else 0
theorem cCmp (x y : Nat) (w : World) : Calls Try.prog 163 #[.int .u32 (x : Int), .int .u32 (y : Int)] w fun e w' => e = .returned (.int .i64 (ordI x y)) ∧ w' = w := by
  have HX := hide (fun (z : Int) (w : World) => cNan z w)
  by_cases h1 : x < y
  · have h1i : (x : Int) < (y : Int) := by omega
    rw [show ordI x y = -1 from if_pos h1]
    go_enter Try.func163, Try.ntmps163
    go_wp2_with (first | (go_at_call 166; refine (unhide HX _ _).mono ?_; rintro e w1 ⟨rfl, rfl⟩) | fail)
    go_ret
    exact ⟨rfl, rfl⟩
  · have h1i : ¬ (x : Int) < (y : Int) := by omega
    by_cases h2 : y < x
    · have h2i : (y : Int) < (x : Int) := by omega
      rw [show ordI x y = 1 by unfold ordI; rw [if_neg h1, if_pos h2]]
      go_enter Try.func163, Try.ntmps163
      go_wp2_with (first | (go_at_call 166; refine (unhide HX _ _).mono ?_; rintro e w1 ⟨rfl, rfl⟩) | fail)
      go_ret
      exact ⟨rfl, rfl⟩
    · have h2i : ¬ (y : Int) < (x : Int) := by omega
      rw [show ordI x y = 0 by unfold ordI; rw [if_neg h1, if_neg h2]]
      go_enter Try.func163, Try.ntmps163
      go_wp2_with (first | (go_at_call 166; refine (unhide HX _ _).mono ?_; rintro e w1 ⟨rfl, rfl⟩) | fail)
      go_ret
      exact ⟨rfl, rfl⟩
set_option maxRecDepth 100000 in
theorem vByActor (p q : Nat × Nat) (u : World) : Calls Try.prog 154 #[.agg #[.int .u32 (p.1 : Int), .int .u64 (p.2 : Int)], .agg #[.int .u32 (q.1 : Int), .int .u64 (q.2 : Int)]] u fun e u' => e = .returned (.int .i64 (ordI p.1 q.1)) ∧ Below u.heap.size u u' := by
  obtain ⟨pa, pc⟩ := p
  obtain ⟨qa, qc⟩ := q
  show Calls Try.prog 154 #[.agg #[.int .u32 (pa : Int), .int .u64 (pc : Int)], .agg #[.int .u32 (qa : Int), .int .u64 (qc : Int)]] u fun e u' => e = .returned (.int .i64 (ordI pa qa)) ∧ Below u.heap.size u u'
  have HX := hide (fun (w : World) => cCmp pa qa w)
  obtain ⟨N, hN⟩ : ∃ N, N = u.heap.size := ⟨_, rfl⟩
  have HN := hide hN
  rw [← hN]
  clear hN
  go_enter Try.func154, Try.ntmps154
  go_wp2_with (first
    | ((with_reducible refine wpList_box_dot (by rfl) (.tmp 0) (by rfl) (some 2) (by rfl) N (unhide HN) (pa : Int) (pc : Int) (by with_unfolding_all rfl) ?_); intro W1 HX1 HB1 HS1; simp only [Act.put, List.setIfInBounds_toArray, List.set_cons_zero, List.set_cons_succ])
    | ((with_reducible refine wpList_box_dot (by rfl) (.tmp 1) (by rfl) (some 3) (by rfl) (N + 1) (unhide HS1).symm (qa : Int) (qc : Int) (by with_unfolding_all rfl) ?_); intro W2 HX2 HB2 HS2; simp only [Act.put, List.setIfInBounds_toArray, List.set_cons_zero, List.set_cons_succ]; obtain ⟨y0, y1⟩ := box2 (unhide HX2); obtain ⟨z0, z1⟩ := box2 (((unhide HB2).block N (Nat.lt_succ_self _)).trans (unhide HX1)))
    | (go_at_call 163; refine (unhide HX _).mono ?_; rintro e w3 ⟨rfl, hw⟩; obtain rfl := hw.symm; clear hw)
    | fail)
  go_ret
  exact ⟨rfl, (unhide HB1).trans ((unhide HB2).mono (Nat.le_succ _))⟩
set_option maxRecDepth 100000 in
set_option maxHeartbeats 2000000 in
theorem vLater (p q : Nat × Nat) (u : World) : Calls Try.prog 155 #[.agg #[.int .u32 (p.1 : Int), .int .u64 (p.2 : Int)], .agg #[.int .u32 (q.1 : Int), .int .u64 (q.2 : Int)]] u fun e u' => e = .returned (.agg #[.int .u32 ((V.later p q).1 : Int), .int .u64 ((V.later p q).2 : Int)]) ∧ Below u.heap.size u u' := by
  obtain ⟨pa, pc⟩ := p
  obtain ⟨qa, qc⟩ := q
  obtain ⟨N, hN⟩ : ∃ N, N = u.heap.size := ⟨_, rfl⟩
  have HN := hide hN
  rw [← hN]
  clear hN
  by_cases h1 : pc < qc
  · have h1i : (pc : Int) < (qc : Int) := by omega
    rw [show V.later (pa, pc) (qa, qc) = (qa, qc) from if_pos h1]
    show Calls Try.prog 155 #[.agg #[.int .u32 (pa : Int), .int .u64 (pc : Int)], .agg #[.int .u32 (qa : Int), .int .u64 (qc : Int)]] u fun e u' => e = .returned (.agg #[.int .u32 (qa : Int), .int .u64 (qc : Int)]) ∧ Below N u u'
    go_enter Try.func155, Try.ntmps155
    go_wp2_with (first
      | ((with_reducible refine wpList_box_dot (by rfl) (.tmp 0) (by rfl) (some 2) (by rfl) N (unhide HN) (pa : Int) (pc : Int) (by with_unfolding_all rfl) ?_); intro W1 HX1 HB1 HS1; simp only [Act.put, List.setIfInBounds_toArray, List.set_cons_zero, List.set_cons_succ])
      | ((with_reducible refine wpList_box_dot (by rfl) (.tmp 1) (by rfl) (some 3) (by rfl) (N + 1) (unhide HS1).symm (qa : Int) (qc : Int) (by with_unfolding_all rfl) ?_); intro W2 HX2 HB2 HS2; simp only [Act.put, List.setIfInBounds_toArray, List.set_cons_zero, List.set_cons_succ])
      | ((with_reducible refine wpList_alloc_dot (by rfl) (by rfl) (some 4) (by rfl) (N + 1 + 1) (unhide HS2).symm ?_); intro W3 HX3 HB3 HS3; simp only [Act.put, List.setIfInBounds_toArray, List.set_cons_zero, List.set_cons_succ]; obtain ⟨y0, y1⟩ := box2 (((unhide HB3).block (N + 1) (Nat.lt_succ_self _)).trans (unhide HX2)); obtain ⟨z0, z1⟩ := box2 ((((unhide HB2).trans ((unhide HB3).mono (Nat.le_succ _))).block N (Nat.lt_succ_self _)).trans (unhide HX1)))
      | ((with_reducible refine wpList_store_dot (by rfl) (.tmp 4) (.tmp 10) (by rfl) (N + 1 + 1) (qa : Int) (qc : Int) (by with_unfolding_all rfl) (by with_unfolding_all rfl) (unhide HX3) ?_); intro W4 HX4 HE4; simp only [Act.put])
      | fail)
    refine bodyPost_ret (results_cell rfl _ _ (N + 1 + 1) 53 #[.int .u32 (qa : Int), .int .u64 (qc : Int)] (0, 0) _ rfl (unhide HX4) dotUnd rfl dotInfo) rfl ?_
    exact ⟨rfl, by rw [unhide HE4]; exact belowRow ((unhide HB1).trans (((unhide HB2).trans ((unhide HB3).mono (Nat.le_succ _))).mono (Nat.le_succ _))) (by omega) _⟩
  · have h1i : ¬ (pc : Int) < (qc : Int) := by omega
    rw [show V.later (pa, pc) (qa, qc) = (pa, pc) from if_neg h1]
    show Calls Try.prog 155 #[.agg #[.int .u32 (pa : Int), .int .u64 (pc : Int)], .agg #[.int .u32 (qa : Int), .int .u64 (qc : Int)]] u fun e u' => e = .returned (.agg #[.int .u32 (pa : Int), .int .u64 (pc : Int)]) ∧ Below N u u'
    go_enter Try.func155, Try.ntmps155
    go_wp2_with (first
      | ((with_reducible refine wpList_box_dot (by rfl) (.tmp 0) (by rfl) (some 2) (by rfl) N (unhide HN) (pa : Int) (pc : Int) (by with_unfolding_all rfl) ?_); intro W1 HX1 HB1 HS1; simp only [Act.put, List.setIfInBounds_toArray, List.set_cons_zero, List.set_cons_succ])
      | ((with_reducible refine wpList_box_dot (by rfl) (.tmp 1) (by rfl) (some 3) (by rfl) (N + 1) (unhide HS1).symm (qa : Int) (qc : Int) (by with_unfolding_all rfl) ?_); intro W2 HX2 HB2 HS2; simp only [Act.put, List.setIfInBounds_toArray, List.set_cons_zero, List.set_cons_succ])
      | ((with_reducible refine wpList_alloc_dot (by rfl) (by rfl) (some 4) (by rfl) (N + 1 + 1) (unhide HS2).symm ?_); intro W3 HX3 HB3 HS3; simp only [Act.put, List.setIfInBounds_toArray, List.set_cons_zero, List.set_cons_succ]; obtain ⟨y0, y1⟩ := box2 (((unhide HB3).block (N + 1) (Nat.lt_succ_self _)).trans (unhide HX2)); obtain ⟨z0, z1⟩ := box2 ((((unhide HB2).trans ((unhide HB3).mono (Nat.le_succ _))).block N (Nat.lt_succ_self _)).trans (unhide HX1)))
      | ((with_reducible refine wpList_store_dot (by rfl) (.tmp 4) (.tmp 11) (by rfl) (N + 1 + 1) (pa : Int) (pc : Int) (by with_unfolding_all rfl) (by with_unfolding_all rfl) (unhide HX3) ?_); intro W4 HX4 HE4; simp only [Act.put])
      | fail)
    refine bodyPost_ret (results_cell rfl _ _ (N + 1 + 1) 53 #[.int .u32 (pa : Int), .int .u64 (pc : Int)] (0, 0) _ rfl (unhide HX4) dotUnd rfl dotInfo) rfl ?_
    exact ⟨rfl, by rw [unhide HE4]; exact belowRow ((unhide HB1).trans (((unhide HB2).trans ((unhide HB3).mono (Nat.le_succ _))).mono (Nat.le_succ _))) (by omega) _⟩
end Go.Proofs.Ytkcbljmjhlnjpaa
namespace Go.Proofs.Ytkcbljmjhlnjpaa
open Go.RowKit
noncomputable def dF (i : Nat) : Field := (Try.prog.fieldsOf 53).getD i default
theorem dFs : (Try.prog.fieldsOf 53).toList = [dF 0, dF 1] := by kernel_rfl
theorem dnm0 : (dF 0).name ≠ "_" := of_decide_eq_true (by kernel_rfl)
theorem dnm1 : (dF 1).name ≠ "_" := of_decide_eq_true (by kernel_rfl)
section
variable (a b c d : Int) (u : World)
theorem dpt0 : (part (dF 0).type #[.int .u32 a, .int .u64 b] (dF 0).offset).run Try.prog u = .ok (.int .u32 a) u := by kernel_rfl
theorem dpt1 : (part (dF 1).type #[.int .u32 a, .int .u64 b] (dF 1).offset).run Try.prog u = .ok (.int .u64 b) u := by kernel_rfl
theorem deq0 : (Op.equalIn 9999 (dF 0).type (.int .u32 a) (.int .u32 b)).run Try.prog u = .ok (a == b) u := run_equalIn_int u 9998 (dF 0).type .u32 .u32 a b (by kernel_rfl)
theorem deq1 : (Op.equalIn 9999 (dF 1).type (.int .u64 a) (.int .u64 b)).run Try.prog u = .ok (a == b) u := run_equalIn_int u 9998 (dF 1).type .u64 .u64 a b (by kernel_rfl)
theorem deqFs : (Op.eqFields 9999 #[.int .u32 a, .int .u64 b] #[.int .u32 c, .int .u64 d] (Try.prog.fieldsOf 53).toList).run Try.prog u = .ok ((a == c) && (b == d)) u := by
  rw [dFs]
  have h1 : (Op.eqFields 9999 #[.int .u32 a, .int .u64 b] #[.int .u32 c, .int .u64 d] [dF 1]).run Try.prog u = .ok (b == d) u := by
    simp only [Op.eqFields, if_pos dnm1, Sem.run_bind, dpt1, deq1, Result.andThen_ok]
    cases (b == d) <;> simp
  rw [Op.eqFields, if_pos dnm0]
  simp only [Sem.run_bind, dpt0, deq0, Result.andThen_ok]
  cases (a == c)
  · simp
  · simp only [Bool.not_true, Bool.false_eq_true, if_false, Bool.true_and]
    exact h1
theorem eqlD : (binOp .eql 53 (.agg #[.int .u32 a, .int .u64 b]) (.agg #[.int .u32 c, .int .u64 d])).run Try.prog u = .ok (.bool ((a == c) && (b == d))) u := by
  rw [run_eql_struct, run_equalIn_agg u 9999 53 _ _ (by kernel_rfl) (by kernel_rfl), deqFs]
  rfl
theorem neqD : (binOp .neq 53 (.agg #[.int .u32 a, .int .u64 b]) (.agg #[.int .u32 c, .int .u64 d])).run Try.prog u = .ok (.bool (!((a == c) && (b == d)))) u := by
  rw [run_neq_struct, run_equalIn_agg u 9999 53 _ _ (by kernel_rfl) (by kernel_rfl), deqFs]
  rfl
end
theorem beq_nat (a b : Nat) : ((a : Int) == (b : Int)) = decide (a = b) := by
  rw [Bool.eq_iff_iff]; simp only [beq_iff_eq, decide_eq_true_eq]; omega
theorem list_ext {l m : List (Nat × Nat)} (h : l.length = m.length) (he : ∀ j (h1 : j < l.length) (h2 : j < m.length), l[j] = m[j]) : l = m := List.ext_getElem h he
set_option maxRecDepth 100000 in
set_option maxHeartbeats 2000000 in
theorem vEqual (l m : List (Nat × Nat)) (ao bo : Option Addr) (c d : Nat) (u : World) (h : DAt u l ao) (h2 : DAt u m bo) : Calls Try.prog 99 #[.slice ao l.length c, .slice bo m.length d] u fun e u' => e = .returned (.bool (decide (l = m))) ∧ ∃ z, u' = u.drewN z := by
  have hl0 := h.len
  have HQ := hide h.lies
  have HP := hide h2.lies
  clear h h2
  by_cases hlm : l.length = m.length
  · have HE : Hid (∀ j (h1 : j < l.length) (h2 : j < m.length), l[j] ≠ m[j] → decide (l = m) = false) := fun j h1 h2 hn => decide_eq_false fun e => hn (by subst e; rfl)
    have HT : Hid ((∀ j (h1 : j < l.length) (h2 : j < m.length), l[j] = m[j]) → decide (l = m) = true) := fun he => decide_eq_true (list_ext hlm he)
    generalize decide (l = m) = ok at *
    obtain ⟨n, hn⟩ : ∃ n, n = l.length := ⟨_, rfl⟩
    have HLN := hide hn
    have HMN : Hid (n = m.length) := hn.trans hlm
    rw [show m.length = n from (unhide HMN).symm]
    rw [← hn] at hl0 ⊢
    have hni : (n : Int) ≤ 140737488355328 := by omega
    clear hn hl0 hlm
    go_enter Try.func99, Try.ntmps99
    go_wp2
    go_loopw [13] (fun i wr => ∃ k : Nat, k ≤ n ∧ i = .int .i64 k ∧ Hid (∃ z, wr = u.drewN z) ∧ Hid (∀ j (h1 : j < l.length) (h2 : j < m.length), j < k → l[j] = m[j])) (fun i _ => n - (intOf i).toNat)
    case atStart => exact ⟨0, Nat.zero_le _, rfl, ⟨0, rfl⟩, fun j _ _ hj => absurd hj (Nat.not_lt_zero _)⟩
    case round =>
      obtain ⟨k, hk, rfl, HI, HJ⟩ := hrel
      obtain ⟨z, rfl⟩ := unhide HI
      clear HI
      by_cases hlt : k < n
      · have hki : (k : Int) < (n : Int) := by omega
        have hkl : k < l.length := by rw [← unhide HLN]; exact hlt
        have hkm : k < m.length := by rw [← unhide HMN]; exact hlt
        obtain ⟨g, o, hao, c1, c2⟩ := (unhide HQ).dt hkl
        obtain ⟨g2, o2, hao2, d1, d2⟩ := (unhide HP).dt hkm
        subst hao hao2
        have hix := ixD g o n c k hlt
        have hix2 := ixD g2 o2 n d k hlt
        have HE1 := hide (unhide HE k hkl hkm)
        have HR : Hid (l[k] = m[k] → ∀ j (h1 : j < l.length) (h2 : j < m.length), j < k + 1 → l[j] = m[j]) := fun hg j hj hj2 hjk => by
          rcases Nat.lt_succ_iff_lt_or_eq.1 hjk with h | rfl
          · exact unhide HJ j hj hj2 h
          · exact hg
        clear HE HJ
        generalize l[k] = q at *
        generalize m[k] = p at *
        obtain ⟨qa, qc⟩ := q
        obtain ⟨pa, pc⟩ := p
        have c1 : u.cell? ⟨g, o + k * 2, none⟩ = some (.int .u32 (qa : Int)) := c1
        have c2 : u.cell? ⟨g, o + k * 2 + 1, none⟩ = some (.int .u64 (qc : Int)) := c2
        have d1 : u.cell? ⟨g2, o2 + k * 2, none⟩ = some (.int .u32 (pa : Int)) := d1
        have d2 : u.cell? ⟨g2, o2 + k * 2 + 1, none⟩ = some (.int .u64 (pc : Int)) := d2
        generalize o + k * 2 = j1 at *
        generalize o2 + k * 2 = j2 at *
        by_cases hqp : (qa, qc) = (pa, pc)
        · have HG := hide (unhide HR hqp)
          cases hqp
          have heq : ∀ W : World, (binOp .neq 53 (.agg #[.int .u32 (qa : Int), .int .u64 (qc : Int)]) (.agg #[.int .u32 (qa : Int), .int .u64 (qc : Int)])).run Try.prog W = .ok (.bool false) W := fun W => by rw [neqD]; simp
          go_wp2_with fail
          go_quiet (fail)
          go_wp2
          go_roundw
          case rel => exact ⟨k + 1, by omega, by go_num, ⟨z + nq, rfl⟩, unhide HG⟩
          case measure => simp [intOf]; omega
        · have HB := hide (unhide HE1 hqp)
          have heq : ∀ W : World, (binOp .neq 53 (.agg #[.int .u32 (qa : Int), .int .u64 (qc : Int)]) (.agg #[.int .u32 (pa : Int), .int .u64 (pc : Int)])).run Try.prog W = .ok (.bool true) W := fun W => by
            rw [neqD, beq_nat, beq_nat, ← Bool.decide_and, decide_eq_false (fun ⟨h1, h2⟩ => hqp (by rw [h1, h2]))]
            rfl
          go_wp2_with fail
          go_quiet (fail)
          go_wp2
          go_ret
          exact ⟨by rw [unhide HB]; rfl, z + nq, by simp [World.drewN_drewN]⟩
      · obtain rfl : k = n := by omega
        have hki : ¬ (k : Int) < (k : Int) := by omega
        have HB := hide (unhide HT fun j h1 h2 => unhide HJ j h1 h2 (by rw [unhide HLN]; exact h1))
        go_wp2
        go_ret
        exact ⟨by rw [unhide HB]; rfl, z, rfl⟩
  · rw [decide_eq_false (fun e : l = m => hlm (by rw [e]))]
    have hi : ¬ (l.length : Int) = (m.length : Int) := by omega
    go_enter Try.func99, Try.ntmps99
    go_wp2
    go_ret
    exact ⟨rfl, 0, rfl⟩
set_option maxRecDepth 100000 in
set_option maxHeartbeats 2000000 in
theorem rSame (l m : List (Nat × Nat)) (ao bo : Option Addr) (c d : Nat) (u : World) (h : DAt u l ao) (h2 : DAt u m bo) : Calls Try.prog 111 #[.slice ao l.length c, .slice bo m.length d] u fun e u' => e = .returned (.bool (decide (l = m))) ∧ ∃ z, u' = u.drewN z := by
  have hl0 := h.len
  have HQ := hide h.lies
  have HP := hide h2.lies
  clear h h2
  by_cases hlm : l.length = m.length
  · have HE : Hid (∀ j (h1 : j < l.length) (h2 : j < m.length), l[j] ≠ m[j] → decide (l = m) = false) := fun j h1 h2 hn => decide_eq_false fun e => hn (by subst e; rfl)
    have HT : Hid ((∀ j (h1 : j < l.length) (h2 : j < m.length), l[j] = m[j]) → decide (l = m) = true) := fun he => decide_eq_true (list_ext hlm he)
    generalize decide (l = m) = ok at *
    obtain ⟨n, hn⟩ : ∃ n, n = l.length := ⟨_, rfl⟩
    have HLN := hide hn
    have HMN : Hid (n = m.length) := hn.trans hlm
    rw [show m.length = n from (unhide HMN).symm]
    rw [← hn] at hl0 ⊢
    have hni : (n : Int) ≤ 140737488355328 := by omega
    clear hn hl0 hlm
    go_enter Try.func111, Try.ntmps111
    go_wp2
    go_loopw [5] (fun i wr => ∃ k : Nat, k ≤ n ∧ i = .int .i64 k ∧ Hid (∃ z, wr = u.drewN z) ∧ Hid (∀ j (h1 : j < l.length) (h2 : j < m.length), j < k → l[j] = m[j])) (fun i _ => n - (intOf i).toNat)
    case atStart => exact ⟨0, Nat.zero_le _, rfl, ⟨0, rfl⟩, fun j _ _ hj => absurd hj (Nat.not_lt_zero _)⟩
    case round =>
      obtain ⟨k, hk, rfl, HI, HJ⟩ := hrel
      obtain ⟨z, rfl⟩ := unhide HI
      clear HI
      by_cases hlt : k < n
      · have hki : (k : Int) < (n : Int) := by omega
        have hkl : k < l.length := by rw [← unhide HLN]; exact hlt
        have hkm : k < m.length := by rw [← unhide HMN]; exact hlt
        obtain ⟨g, o, hao, c1, c2⟩ := (unhide HQ).dt hkl
        obtain ⟨g2, o2, hao2, d1, d2⟩ := (unhide HP).dt hkm
        subst hao hao2
        have hix := ixD g o n c k hlt
        have hix2 := ixD g2 o2 n d k hlt
        have HE1 := hide (unhide HE k hkl hkm)
        have HR : Hid (l[k] = m[k] → ∀ j (h1 : j < l.length) (h2 : j < m.length), j < k + 1 → l[j] = m[j]) := fun hg j hj hj2 hjk => by
          rcases Nat.lt_succ_iff_lt_or_eq.1 hjk with h | rfl
          · exact unhide HJ j hj hj2 h
          · exact hg
        clear HE HJ
        generalize l[k] = q at *
        generalize m[k] = p at *
        obtain ⟨qa, qc⟩ := q
        obtain ⟨pa, pc⟩ := p
        have c1 : u.cell? ⟨g, o + k * 2, none⟩ = some (.int .u32 (qa : Int)) := c1
        have c2 : u.cell? ⟨g, o + k * 2 + 1, none⟩ = some (.int .u64 (qc : Int)) := c2
        have d1 : u.cell? ⟨g2, o2 + k * 2, none⟩ = some (.int .u32 (pa : Int)) := d1
        have d2 : u.cell? ⟨g2, o2 + k * 2 + 1, none⟩ = some (.int .u64 (pc : Int)) := d2
        generalize o + k * 2 = j1 at *
        generalize o2 + k * 2 = j2 at *
        by_cases hqp : (qa, qc) = (pa, pc)
        · have HG := hide (unhide HR hqp)
          cases hqp
          have heq : ∀ W : World, (binOp .neq 53 (.agg #[.int .u32 (qa : Int), .int .u64 (qc : Int)]) (.agg #[.int .u32 (qa : Int), .int .u64 (qc : Int)])).run Try.prog W = .ok (.bool false) W := fun W => by rw [neqD]; simp
          go_wp2_with fail
          go_quiet (fail)
          go_wp2
          go_roundw
          case rel => exact ⟨k + 1, by omega, by go_num, ⟨z + nq, rfl⟩, unhide HG⟩
          case measure => simp [intOf]; omega
        · have HB := hide (unhide HE1 hqp)
          have heq : ∀ W : World, (binOp .neq 53 (.agg #[.int .u32 (qa : Int), .int .u64 (qc : Int)]) (.agg #[.int .u32 (pa : Int), .int .u64 (pc : Int)])).run Try.prog W = .ok (.bool true) W := fun W => by
            rw [neqD, beq_nat, beq_nat, ← Bool.decide_and, decide_eq_false (fun ⟨h1, h2⟩ => hqp (by rw [h1, h2]))]
            rfl
          go_wp2_with fail
          go_quiet (fail)
          go_wp2
          go_ret
          exact ⟨by rw [unhide HB]; rfl, z + nq, by simp [World.drewN_drewN]⟩
      · obtain rfl : k = n := by omega
        have hki : ¬ (k : Int) < (k : Int) := by omega
        have HB := hide (unhide HT fun j h1 h2 => unhide HJ j h1 h2 (by rw [unhide HLN]; exact h1))
        go_wp2
        go_ret
        exact ⟨by rw [unhide HB]; rfl, z, rfl⟩
  · rw [decide_eq_false (fun e : l = m => hlm (by rw [e]))]
    have hi : ¬ (l.length : Int) = (m.length : Int) := by omega
    go_enter Try.func111, Try.ntmps111
    go_wp2
    go_ret
    exact ⟨rfl, 0, rfl⟩
end Go.Proofs.Ytkcbljmjhlnjpaa
