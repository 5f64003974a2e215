/- Vectors: the walk of VectorForm. -/
import Derived.Test.YtajflgonhomkfaaXq
import Derived.Test.YtajflgonhomkfaaXv
namespace Go.Proofs.Ytajflgonhomkfaa
open Go.RowKit

section
variable {W0 : World} {a : List (Nat × Nat)} {xa : Option Addr} {ca na : Nat}
theorem kEncode (t : ByteArray) (r : Int) (hr : encV a = (t, r)) (ea : na = a.length) (ha : Da W0 a xa ca) (W : World) (hW : Below W0.heap.size W0 W) : Calls Try.prog 25 #[.slice xa na ca] W fun e W' => e = .returned (.tuple #[.string t, .int .i64 r]) ∧ Below W0.heap.size W0 W' := by
  subst ea
  have h := vEncode a xa ca W (ha.below hW).at
  rw [hr] at h
  exact h.mono fun e W' h => ⟨h.1, hW.trans (h.2.mono hW.size)⟩
theorem kDecode (s : ByteArray) (m : List (Nat × Nat)) (r : Int) (hr : decV s = (m, r)) (hs : s.size ≤ 140737488355328) (hf : Fits m) (hm : m.length ≤ 128) (W : World) (hW : Below W0.heap.size W0 W) : Calls Try.prog 29 #[.string s] W fun e W' => ∃ xm nm cm, e = .returned (.tuple #[.slice xm nm cm, .int .i64 r]) ∧ nm = m.length ∧ Da W' m xm cm ∧ Below W0.heap.size W0 W' := by
  have h := vDecode s W hs
  rw [hr] at h
  refine h.mono ?_
  rintro e W' ⟨xm, cm, he, ho, hb⟩
  exact ⟨xm, _, cm, he, rfl, ⟨ho.dv, hf, len_da hm⟩, hW.trans (hb.mono hW.size)⟩
end
theorem enc_ok {l : List (Nat × Nat)} (h : V.Ok l) : encV l = (⟨(vecB l).toArray⟩, 0) := by unfold encV; rw [V.okB_true.2 h]; rfl
theorem vecB_len (l : List (Nat × Nat)) (h : l.length ≤ 64) : (vecB l).length ≤ 1290 := by
  have h1 := (uintB_len 9 l.length).2
  have h2 := dotsB_len l
  unfold vecB
  rw [List.length_append]
  omega
set_option maxRecDepth 100000 in
set_option maxHeartbeats 16000000 in
theorem form10_walk (l1 : List (Nat × Nat)) (s : ByteArray) (a1 : Option Addr) (c1 : Nat) (u : World) (h1 : Da u l1 a1 c1) (hs : s.size ≤ 140737488355328) :
    Calls Try.prog 10 #[.slice a1 l1.length c1, .string s] u fun e u' => e = .returned (.bool true) ∧ Below u.heap.size u u' := by
  have HW := hide (kWorks u u (Below.refl _ _))
  have hla := V.mkv_vec 64 (l := l1) V.vec_nil (Nat.zero_le _)
  have oa : V.Ok (V.mkv 64 [] l1) := ⟨hla.1, hla.2⟩
  have HM1 : Hid (∀ W : World, Below u.heap.size u W → Calls Try.prog 39 #[.slice a1 l1.length c1, .int .i64 64] W fun e W' => ∃ xm nm cm, e = .returned (.slice xm nm cm) ∧ nm = (V.mkv 64 [] l1).length ∧ Da W' (V.mkv 64 [] l1) xm cm ∧ Below W.heap.size W W') := fun W hW => kMade 64 (by decide) rfl (h1.below hW) W (Below.refl _ _)
  clear h1 hla
  generalize V.mkv 64 [] l1 = a at *
  have HE := hide (enc_ok oa)
  have HD := hide (fun hf => dec_enc oa hf)
  have HL := hide (vecB_len a oa.len)
  have HLA := hide oa.len
  have hsz : (⟨(vecB a).toArray⟩ : ByteArray).size = (vecB a).length := List.size_toArray
  have HTS : Hid ((⟨(vecB a).toArray⟩ : ByteArray).size ≤ 140737488355328) := by rw [hsz]; exact Nat.le_trans (unhide HL) (by decide)
  generalize (⟨(vecB a).toArray⟩ : ByteArray) = t at *
  clear hsz oa HL
  obtain ⟨n1, hn1⟩ : ∃ n, n = l1.length := ⟨_, rfl⟩
  rw [← hn1] at HM1 ⊢
  obtain ⟨N, hN⟩ : ∃ N, N = u.heap.size := ⟨_, rfl⟩
  have HN := hide hN
  rw [← hN] at HW HM1 ⊢
  clear hN hn1
  have HUP : Hid (∀ W W' : World, Below N u W → Below W.heap.size W W' → Below N u W') := fun W W' h1 h2 => h1.trans (h2.mono (by rw [unhide HN]; exact h1.size))
  have HSS := hide hs
  have HDS := hide (dec_cases s)
  go_enter Try.func10, Try.ntmps10
  go_upto_region 4 with (first
    | (go_at_call 38; refine (unhide HW).mono ?_; rintro e w1 ⟨rfl, hb1⟩; have HBX := hide hb1; clear hb1)
    | (go_at_call 39; refine (unhide HM1 _ (unhide HBX)).mono ?_; rintro e w2 ⟨xa, na, ca, rfl, en, hd, hb1⟩; replace HBX := hide (unhide HUP _ _ (unhide HBX) hb1); have HA := hide hd; have EA := hide en; clear hb1 hd en HM1)
    | fail)
  have X1 := hide (kEncode t 0 (unhide HE) (unhide EA) (unhide HA) w2 (Below.refl _ _))
  go_upto_region 5 with (first
    | (go_at_call 25; refine (unhide X1).mono ?_; rintro e w3 ⟨rfl, hb1⟩; replace HBX := hide (unhide HUP _ _ (unhide HBX) hb1); replace HA := hide ((unhide HA).below hb1); clear hb1)
    | fail)
  have X2 := hide (kDecode (W0 := w3) t a 0 (unhide HD (unhide HA).fits) (unhide HTS) (unhide HA).fits (Nat.le_trans (unhide HLA) (by decide)) w3 (Below.refl _ _))
  go_upto_region 6 with (first
    | (go_at_call 29; refine (unhide X2).mono ?_; rintro e w4 ⟨xb, nb, cb, rfl, en, hd, hb1⟩; replace HBX := hide (unhide HUP _ _ (unhide HBX) hb1); replace HA := hide ((unhide HA).below hb1); have HB := hide hd; have EB := hide en; clear hb1 hd en)
    | fail)
  have X3 := hide (kSame true (decide_eq_true rfl) (unhide EB) (unhide EA) (unhide HB) (unhide HA) w4 (Below.refl _ _))
  go_upto_region 8 with (first
    | (go_at_call 40; refine (unhide X3).mono ?_; rintro e w5 ⟨rfl, hb1⟩; replace HBX := hide (unhide HUP _ _ (unhide HBX) hb1); clear hb1)
    | fail)
  clear X1 X2 X3 HA HB HE HD HTS
  rcases unhide HDS with ⟨m, hm, om, fm, hv⟩ | hm
  · have X4 := hide (kDecode (W0 := w5) s m 0 hm (unhide HSS) fm (Nat.le_trans om.len (by decide)) w5 (Below.refl _ _))
    have HEM : Hid (encV m = (s, 0)) := by rw [enc_ok om, hv]; exact rfl
    have HOM : Hid (V.okB m = true) := V.okB_true.2 om
    clear om fm hv hm HDS
    go_upto_region 9 with (first
      | (go_at_call 29; refine (unhide X4).mono ?_; rintro e w6 ⟨xc, nc, cc, rfl, en, hd, hb1⟩; replace HBX := hide (unhide HUP _ _ (unhide HBX) hb1); have HC := hide hd; have EC := hide en; clear hb1 hd en)
      | fail)
    have X5 := hide (kEncode s 0 (unhide HEM) (unhide EC) (unhide HC) w6 (Below.refl _ _))
    go_upto_region 12 with (first
      | (go_at_call 25; refine (unhide X5).mono ?_; rintro e w7 ⟨rfl, hb1⟩; replace HBX := hide (unhide HUP _ _ (unhide HBX) hb1); replace HC := hide ((unhide HC).below hb1); clear hb1)
      | fail)
    have X6 := hide (kValid true (unhide HOM) (unhide EC) (unhide HC) w7 (Below.refl _ _))
    go_wp2_with (first
      | (go_at_call 41; refine (unhide X6).mono ?_; rintro e w8 ⟨rfl, hb1⟩; replace HBX := hide (unhide HUP _ _ (unhide HBX) hb1); clear hb1)
      | fail)
    go_ret
    exact ⟨rfl, unhide HBX⟩
  · have X4 := hide (kDecode (W0 := w5) s [] 100 hm (unhide HSS) (fun d hd => by cases hd) (Nat.zero_le _) w5 (Below.refl _ _))
    clear hm HDS
    go_wp2_with (first
      | (go_at_call 29; refine (unhide X4).mono ?_; rintro e w6 ⟨xc, nc, cc, rfl, en, hd, hb1⟩; replace HBX := hide (unhide HUP _ _ (unhide HBX) hb1); obtain rfl : nc = 0 := en; clear hb1 hd)
      | fail)
    go_ret
    exact ⟨rfl, unhide HBX⟩
end Go.Proofs.Ytajflgonhomkfaa
