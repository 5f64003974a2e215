/- Write. -/
import Derived.Test.YtpbifpbblinopaaHsA
import Derived.Deep.QuietTactic
namespace Go.Proofs.Ytpbifpbblinopaa
open Go.RowKit

theorem stop_at {p : Prop} (h : Hid p) : p := h
theorem b64Len : Try.prog.arrayLen 65 = 64 := by kernel_rfl
theorem b64Und : Try.prog.underlying 65 = some (.array (Try.prog.arrayLen 65) (Try.prog.elem 65)) := by kernel_rfl
theorem b64Size (W : World) : (sizeOf (Try.prog.elem 65)).run Try.prog W = .ok 1 W := by
  have h : (Try.prog.info? (Try.prog.elem 65)).map (·.size) = some 1 := by kernel_rfl
  cases hq : Try.prog.info? (Try.prog.elem 65) with
  | none => simp [hq] at h
  | some i => simp [sizeOf, typeInfo, hq] at h ⊢; exact h
theorem sl64 (h o r : Nat) (hr : r < 64) (W : World) : (Instr.sliceAt 65 (.pointer (some ⟨h, o, none⟩)) (some (.int .i64 (r : Int))) none none).run Try.prog W = .ok (.slice (some ⟨h, o + r, none⟩) (64 - r) (64 - r)) W := by
  rw [run_sliceAt_array_l W 65 _ b64Und .i64 r (by omega) (by rw [b64Len]; omega), b64Size]
  simp only [Result.andThen_ok, slicedAt, b64Len, Int.toNat_natCast, Nat.mul_one]
  rw [if_neg (by omega), Addr.add_mid]
theorem sl64all (h o : Nat) (W : World) : (Instr.sliceAt 65 (.pointer (some ⟨h, o, none⟩)) none none none).run Try.prog W = .ok (.slice (some ⟨h, o, none⟩) 64 64) W := by
  rw [run_sliceAt_array_all W 65 _ b64Und, b64Size]
  simp only [Result.andThen_ok, slicedAt, b64Len]
  rw [if_neg (by omega), Addr.add_mid]
  rfl
theorem arrAt64 (g o c : Nat) (W : World) : (Instr.arrayAt 65 (.slice (some ⟨g, o, none⟩) 64 c)).run Try.prog W = .ok (.pointer (some ⟨g, o, none⟩)) W := by
  simp [Instr.arrayAt, run_underlying b64Und, b64Len]
/-- the bytes that are handed in lie apart from the Hash -/
def Src (w : World) (h : Nat) (p : List UInt8) (ao : Option Addr) : Prop := 0 < p.length → ∃ g o, ao = some ⟨g, o, none⟩ ∧ g ≠ h ∧ ∀ (j : Nat) (hj : j < p.length), w.cell? ⟨g, o + j, none⟩ = some (.int .u8 (p[j].toNat : Int))
set_option maxRecDepth 100000 in
set_option maxHeartbeats 1000000 in
theorem dWriteFew (h : Nat) (l p : List UInt8) (ao : Option Addr) (cap : Nat) (w : World) (hh : Hs w h l) (hsrc : Src w h p ao)
    (hb : l.length + p.length ≤ 4611686018427387904) (hf : l.length % 64 + p.length < 64) :
    Calls Try.prog 27 #[.pointer (some ⟨h, 0, none⟩), .slice ao p.length cap] w fun e w' => e = .returned (.tuple #[]) ∧ Hs w' h (l ++ p) ∧ U1 w w' h := by
  obtain ⟨lf, ha, ht⟩ := hh.at'
  obtain ⟨r, hr⟩ : ∃ r, r = l.length % 64 := ⟨_, rfl⟩
  obtain ⟨n, hn⟩ : ∃ n, n = l.length := ⟨_, rfl⟩
  obtain ⟨m, hm⟩ : ∃ m, m = p.length := ⟨_, rfl⟩
  have hrn : (n : Int) % 64 = (r : Int) := by omega
  have hr64 : (r : Int) < 64 := by omega
  have HF : Hid (Sha.absorb (l ++ p) = Sha.absorb l ∧ Sha.tail (l ++ p) = Sha.tail l ++ p) := Sha.absorb_few l p hf
  rw [← hr] at ht hf
  rw [← hn] at ha hb
  rw [← hm] at hb hf ⊢
  have hc := ha.cnt
  have hfz := ha.frozen 72
  have hsl := sl64 h 8 r (by omega)
  have ha1 := ha.setCnt (n + m)
  have hu1 : U1 w (w.setCell ⟨h, 72, none⟩ (.int .u64 ((n + m : Nat) : Int))) h := (U1.refl _ _).set _ _
  have hl64 := ha1.len
  obtain ⟨W2, hcp, ha2, hu2⟩ := copyLeft (r := r) (q := p) ha1 ao m cap (by rw [← hm]; exact (Nat.min_eq_left (by omega)).symm) (by omega) (fun hp => by
      obtain ⟨g, o, h1, h2, h3⟩ := hsrc hp
      refine ⟨_, h1, fun j hj => ?_⟩
      rw [Addr.add_mid]
      exact cell_u1 hu1 h2 (h3 j hj))
  rw [← hm, show ((n + m : Nat) : Int) = (n : Int) + (m : Int) from by omega] at hcp
  have HE : Hid (Hs W2 h (l ++ p) ∧ U1 w W2 h) := by
    refine ⟨⟨splice lf r p, ?_, ?_⟩, hu1.trans hu2⟩
    · rw [(unhide HF).1, List.length_append, ← hn, ← hm]; exact ha2
    · rw [(unhide HF).2, List.length_append, show (l.length + p.length) % 64 = r + p.length from by omega, splice_take _ _ _ (by omega), ht]
  clear ha1 ha2 hu1 hu2 HF hh ha ht hsrc hr hn hm
  go_enter Try.func27, Try.ntmps27
  go_wp2
  go_returns
  exact ⟨rfl, unhide HE⟩
set_option maxRecDepth 100000 in
set_option maxHeartbeats 1000000 in
theorem dWriteMore (h g o : Nat) (l p : List UInt8) (cap : Nat) (w : World) (hh : Hs w h l) (hne : g ≠ h) (hsrc : ∀ (j : Nat) (hj : j < p.length), w.cell? ⟨g, o + j, none⟩ = some (.int .u8 (p[j].toNat : Int)))
    (hb : l.length + p.length ≤ 4611686018427387904) (hcap : p.length ≤ cap) (hf : 64 ≤ l.length % 64 + p.length) :
    Calls Try.prog 27 #[.pointer (some ⟨h, 0, none⟩), .slice (some ⟨g, o, none⟩) p.length cap] w fun e w' => e = .returned (.tuple #[]) ∧ Hs w' h (l ++ p) ∧ U1 w w' h := by
  obtain ⟨lf, ha, ht⟩ := hh.at'
  obtain ⟨r, hr⟩ : ∃ r, r = l.length % 64 := ⟨_, rfl⟩
  obtain ⟨n, hn⟩ : ∃ n, n = l.length := ⟨_, rfl⟩
  obtain ⟨m, hm⟩ : ∃ m, m = p.length := ⟨_, rfl⟩
  have hrn : (n : Int) % 64 = (r : Int) := by omega
  have hr64 : (r : Int) < 64 := by omega
  have HF := hide (Sha.absorb_more l p hf)
  rw [← hr] at ht hf HF
  rw [← hn] at ha hb
  rw [← hm] at hb hf hcap ⊢
  obtain ⟨d, hd⟩ : ∃ d, d = 64 - r := ⟨_, rfl⟩
  have hc := ha.cnt
  have hfz := ha.frozen 72
  have hsl := sl64 h 8 r (by omega)
  have ha1 := ha.setCnt (n + m)
  have hu1 : U1 w (w.setCell ⟨h, 72, none⟩ (.int .u64 ((n + m : Nat) : Int))) h := (U1.refl _ _).set _ _
  have hl64 := ha1.len
  have hql : (p.take d).length = d := by rw [List.length_take]; omega
  obtain ⟨W2, hcp, ha2, hu2⟩ := copyLeft (r := r) (q := p.take d) ha1 (some ⟨g, o, none⟩) m cap (by rw [hql, hd]; exact (Nat.min_eq_right (by omega)).symm) (by omega) (fun hp => by
      refine ⟨_, rfl, fun j hj => ?_⟩
      rw [Addr.add_mid, List.getElem_take]
      exact cell_u1 hu1 hne (hsrc j (by omega)))
  rw [hql, show ((n + m : Nat) : Int) = (n : Int) + (m : Int) from by omega] at hcp
  rw [← hd] at hcp hsl
  have HA2 : Hid (HA W2 h (Sha.absorb l) (Sha.tail l ++ p.take d) (n + m)) := by
    have e : splice lf r (p.take d) = Sha.tail l ++ p.take d := by
      unfold splice
      rw [ht, hql, List.drop_of_length_le (by omega), List.append_nil]
    rw [← e]; exact ha2
  have HU2 := hide (hu1.trans hu2)
  have HSRC : Hid (∀ (j : Nat) (hj : j < p.length), W2.cell? ⟨g, o + j, none⟩ = some (.int .u8 (p[j].toNat : Int))) := fun j hj => cell_u1 (hu1.trans hu2) hne (hsrc j hj)
  have HR := hide hr
  have HN := hide hn
  have HM := hide hm
  have hd1 : (r : Int) + d = 64 := by omega
  have HD := hide hd
  clear ha1 ha2 hu1 hu2 hh ha ht hsrc hr hn hm hd
  go_enter Try.func27, Try.ntmps27
  go_wp2_with fail
  refine (dCubes _).mono ?_
  rintro e w3 ⟨rfl, hbel⟩
  have HB3 := hide hbel
  clear hbel
  go_wp2_with (refine wpList_store_u1 rfl 62 (.tmp 6) (.tmp 36) rfl w3.heap.size KV rfl rfl 62 Z64 (by first | exact heap_alloc_new _ _ | kernel_rfl) infoW rfl KV_is.one ?_; intro W3 HR3 HU3)
  have HW : Hid (WI w W3 h w3.heap.size g o p (Sha.absorb l) (Sha.tail l ++ p.take d) (n + m)) := by
    have hb3 := (unhide HB3).trans ((unhide HU3).fresh.mono (unhide HB3).size)
    have hlt := (unhide HA2).lt
    have hs3 := (unhide HB3).size
    have hrow := unhide HR3
    refine ⟨(unhide HA2).below hb3, fun i hi => ?_, ?_, by omega, fun j hj => cell_u1 (U1.below' hb3) hne (unhide HSRC j hj), hne, (unhide HU2).trans (U1.below' hb3)⟩
    · simp only [World.cell?, hrow]
      exact KV_is.at' i hi
    · exact (Array.getElem?_eq_some_iff.1 hrow).1
  clear HA2 HU2 HSRC HB3 HR3 HU3
  generalize w3.heap.size = tb at *
  refine wp_region_any (by kernel_rfl) ?_
  change wpAny _ _ _ _ _ _ _ (World.drew _)
  refine wpAny_take' 0 37 (.pointer (some ⟨h, 0, none⟩)) rfl rfl (by kernel_rfl) (by kernel_rfl) (by kernel_rfl) (fun _ _ _ h => h) rfl (fun u => by go_simp) ?_
  simp only [Act.put, List.setIfInBounds_toArray, List.set_cons_zero, List.set_cons_succ]
  refine wpAny_take' 1 38 (.pointer (some ⟨h, 0, none⟩)) rfl rfl (by kernel_rfl) (by kernel_rfl) (by kernel_rfl) (fun _ _ _ h => h) rfl (fun u => by go_simp) ?_
  simp only [Act.put, List.setIfInBounds_toArray, List.set_cons_zero, List.set_cons_succ]
  refine wpAny_take' 2 39 (.pointer (some ⟨h, 0, none⟩)) rfl rfl (by kernel_rfl) (by kernel_rfl) (by kernel_rfl) (fun _ _ _ h => h) rfl (fun u => by go_simp) ?_
  simp only [Act.put, List.setIfInBounds_toArray, List.set_cons_zero, List.set_cons_succ]
  refine wpAny_take' 3 40 (.pointer (some ⟨h, 0, none⟩)) rfl rfl (by kernel_rfl) (by kernel_rfl) (by kernel_rfl) (fun _ _ _ h => h) rfl (fun u => by go_simp) ?_
  simp only [Act.put, List.setIfInBounds_toArray, List.set_cons_zero, List.set_cons_succ]
  refine wpAny_take' 5 42 (.pointer (some ⟨h, 0, none⟩)) rfl rfl (by kernel_rfl) (by kernel_rfl) (by kernel_rfl) (fun _ _ _ h => h) rfl (fun u => by go_simp) ?_
  simp only [Act.put, List.setIfInBounds_toArray, List.set_cons_zero, List.set_cons_succ]
  refine wpAny_take' 6 43 (.pointer (some ⟨h, 0, none⟩)) rfl rfl (by kernel_rfl) (by kernel_rfl) (by kernel_rfl) (fun _ _ _ h => h) rfl (fun u => by go_simp) ?_
  simp only [Act.put, List.setIfInBounds_toArray, List.set_cons_zero, List.set_cons_succ]
  refine wpAny_take' 7 44 (.pointer (some ⟨h, 8, none⟩)) rfl rfl (by kernel_rfl) (by kernel_rfl) (by kernel_rfl) (fun _ _ _ h => h) rfl (fun u => by go_simp) ?_
  simp only [Act.put, List.setIfInBounds_toArray, List.set_cons_zero, List.set_cons_succ]
  have hst := (unhide HW).drew.ha.st
  have hlf : W3.drew.rangeAt h 8 (Lib.byteCells (Sha.tail l ++ p.take d)).toArray.toList := (unhide HW).drew.ha.lf
  have hcl := (lf_is8 _ (unhide HW).ha.len).size
  have hi2 : (Try.prog.info? 65).map (·.size) = some (Lib.byteCells (Sha.tail l ++ p.take d)).toArray.size := by rw [infoB, hcl]
  refine wpAny_pair (i := 4) (j := 8) (by kernel_rfl) (by kernel_rfl) (by kernel_rfl) (by kernel_rfl) rfl rfl rfl rfl 41 45 (by decide)
    (fun K hK => wp_load_arr 23 (.tmp 40) rfl (some 41) rfl h 0 rfl (St8 (Sha.absorb l)) _ _ hst Try.underlying23 info8 hK)
    (fun K hK => wp_load_arr 23 (.tmp 40) rfl (some 41) rfl h 0 rfl (St8 (Sha.absorb l)) _ _ hst Try.underlying23 info8 hK)
    (fun K hK => wp_load_arr 65 (.tmp 44) rfl (some 45) rfl h 8 rfl (Lib.byteCells (Sha.tail l ++ p.take d)).toArray _ _ hlf Try.underlying65 hi2 hK)
    (fun K hK => wp_load_arr 65 (.tmp 44) rfl (some 45) rfl h 8 rfl (Lib.byteCells (Sha.tail l ++ p.take d)).toArray _ _ hlf Try.underlying65 hi2 hK) ?_
  simp only [Act.put, List.setIfInBounds_toArray, List.set_cons_zero, List.set_cons_succ]
  refine wpAny_one (i := 9) (by kernel_rfl) rfl rfl fun K hK => ?_
  go_simp
  refine (dMixed (lfB (Sha.tail l ++ p.take d)) (lfB_lt _) _ (Ok.absorb l) _ (lf_is8 _ (unhide HW).ha.len) tb _ (unhide HW).drew.tlt (unhide HW).drew.tab).mono ?_
  rintro e w4 ⟨rfl, hb4⟩
  rw [mix_lfB]
  have HW4 := hide ((unhide HW).drew.step hb4 (Sha.mix (Sha.absorb l) (Sha.tail l ++ p.take d)))
  have hth := ((unhide HW).drew.ha.below hb4).there
  have hok : Ok (Sha.mix (Sha.absorb l) (Sha.tail l ++ p.take d)) := Ok.mix _ _
  clear HW hb4 hst hlf hi2 hcl
  generalize hs1 : Sha.mix (Sha.absorb l) (Sha.tail l ++ p.take d) = s1 at *
  have HS1 := hide hs1
  clear hs1
  refine hK _ _ ?_
  clear hK K
  refine wpAny_take' 10 47 (.pointer (some ⟨h, 0, none⟩)) rfl rfl (by kernel_rfl) (by kernel_rfl) (by kernel_rfl) (fun _ _ _ h => h) rfl (fun u => by go_simp) ?_
  simp only [Act.put, List.setIfInBounds_toArray, List.set_cons_zero, List.set_cons_succ]
  refine wpAny_take' 11 48 (.pointer (some ⟨h, 0, none⟩)) rfl rfl (by kernel_rfl) (by kernel_rfl) (by kernel_rfl) (fun _ _ _ h => h) rfl (fun u => by go_simp) ?_
  simp only [Act.put, List.setIfInBounds_toArray, List.set_cons_zero, List.set_cons_succ]
  refine wpAny_one (i := 12) (by kernel_rfl) rfl rfl fun K hK => wp_store_arr 23 (.tmp 48) (.tmp 46) rfl rfl h 0 (St8 s1) rfl rfl hth info8 (St8_one s1) (hK _ _ ?_)
  clear hK K
  refine wpAny_done (by kernel_rfl) ?_ _
  clear hth
  generalize w4.setCells h 0 (St8 s1).toList = W4 at *
  have hct := cutFrom g o m cap d (by omega)
  have HW5 := hide ((unhide HW4).cut cap d (by rw [← unhide HM]; exact hcap))
  have hql2 : (p.drop d).length = m - d := by rw [List.length_drop, ← unhide HM]
  have HQ := hide hql2
  clear hql hql2 HW4
  generalize hlf0 : Sha.tail l ++ p.take d = lf0 at *
  have HL0 := hide hlf0
  clear hlf0
  go_wp2
  clear hct
  go_loopw [1] (fun v wr => ∃ (k o1 m1 c1 : Nat), v = .slice (some ⟨g, o1, none⟩) m1 c1 ∧ m1 ≤ c1 ∧ m1 ≤ m ∧ Hid (64 * k + m1 = (p.drop d).length) ∧ Hid (WI w wr h tb g o1 ((p.drop d).drop (64 * k)) (Sha.blocks k s1 (p.drop d)) lf0 (n + m))) (fun v _ => sliceLen v)
  case atStart => exact ⟨0, cutO cap d o, m - d, cap - d, rfl, by omega, by omega, hide (by rw [unhide HQ]; omega), HW5⟩
  case round =>
    clear HW5
    obtain ⟨k, o1, m1, c1, rfl, hc1, hm1, HK, HW⟩ := hrel
    by_cases hlt : 64 ≤ m1
    · have hlti : (64 : Int) ≤ (m1 : Int) := by omega
      have hcti := cutTo g o1 m1 c1 64 (by omega) (by omega)
      have hctf := cutFrom g o1 m1 c1 64 (by omega)
      rw [show ((64 : Nat) : Int) = 64 from rfl] at hcti hctf
      have haa := arrAt64 g o1 c1
      have hok1 : Hid (Ok (Sha.blocks k s1 (p.drop d))) := hok.blocks _ _
      have HX : Hid (Sha.blocks (k + 1) s1 (p.drop d) = Sha.mix (Sha.blocks k s1 (p.drop d)) (((p.drop d).drop (64 * k)).take 64)) := Sha.blocks_succ _ _ _
      have hxl : (((p.drop d).drop (64 * k)).take 64).length = 64 := by rw [List.length_take, List.length_drop]; have := unhide HK; omega
      have HXL := hide hxl
      have HXD : Hid (((p.drop d).drop (64 * k)).drop 64 = (p.drop d).drop (64 * (k + 1))) := by rw [List.drop_drop, show 64 * k + 64 = 64 * (k + 1) from by omega]; exact hide rfl
      have HXM : Hid (((p.drop d).drop (64 * k)).length = m1) := by rw [List.length_drop]; have := unhide HK; exact hide (by omega)
      clear hxl
      generalize Sha.blocks k s1 (p.drop d) = s2 at *
      generalize (p.drop d).drop (64 * k) = x at *
      go_wp2
      refine wp_region_any (by kernel_rfl) ?_
      change wpAny _ _ _ _ _ _ _ (World.drew _)
      refine wpAny_take' 0 55 (.pointer (some ⟨h, 0, none⟩)) rfl rfl (by kernel_rfl) (by kernel_rfl) (by kernel_rfl) (fun _ _ _ h => h) rfl (fun u => by go_simp) ?_
      simp only [Act.put, List.setIfInBounds_toArray, List.set_cons_zero, List.set_cons_succ]
      refine wpAny_take' 1 56 (.pointer (some ⟨h, 0, none⟩)) rfl rfl (by kernel_rfl) (by kernel_rfl) (by kernel_rfl) (fun _ _ _ h => h) rfl (fun u => by go_simp) ?_
      simp only [Act.put, List.setIfInBounds_toArray, List.set_cons_zero, List.set_cons_succ]
      refine wpAny_take' 2 57 (.pointer (some ⟨h, 0, none⟩)) rfl rfl (by kernel_rfl) (by kernel_rfl) (by kernel_rfl) (fun _ _ _ h => h) rfl (fun u => by go_simp) ?_
      simp only [Act.put, List.setIfInBounds_toArray, List.set_cons_zero, List.set_cons_succ]
      refine wpAny_take' 3 58 (.pointer (some ⟨h, 0, none⟩)) rfl rfl (by kernel_rfl) (by kernel_rfl) (by kernel_rfl) (fun _ _ _ h => h) rfl (fun u => by go_simp) ?_
      simp only [Act.put, List.setIfInBounds_toArray, List.set_cons_zero, List.set_cons_succ]
      refine wpAny_take' 5 60 (.slice (some ⟨g, o1, none⟩) m1 c1) rfl rfl (by kernel_rfl) (by kernel_rfl) (by kernel_rfl) (fun _ _ _ h => h) rfl (fun u => by go_simp) ?_
      simp only [Act.put, List.setIfInBounds_toArray, List.set_cons_zero, List.set_cons_succ]
      refine wpAny_take' 6 61 (.slice (some ⟨g, o1, none⟩) 64 c1) rfl rfl (by kernel_rfl) (by kernel_rfl) (by kernel_rfl) (fun _ _ _ h => h) rfl (fun u => by go_simp) ?_
      simp only [Act.put, List.setIfInBounds_toArray, List.set_cons_zero, List.set_cons_succ]
      refine wpAny_take' 7 62 (.pointer (some ⟨g, o1, none⟩)) rfl rfl (by kernel_rfl) (by kernel_rfl) (by kernel_rfl) (fun _ _ _ h => h) rfl (fun u => by go_simp) ?_
      simp only [Act.put, List.setIfInBounds_toArray, List.set_cons_zero, List.set_cons_succ]
      have hst := (unhide HW).drew.ha.st
      have hlf : wr.drew.rangeAt g o1 (Lib.byteCells (x.take 64)).toArray.toList := (unhide HW).drew.front 64
      have hi2 : (Try.prog.info? 65).map (·.size) = some (Lib.byteCells (x.take 64)).toArray.size := by rw [infoB, (lf_is8 _ (unhide HXL)).size]
      refine wpAny_pair (i := 4) (j := 8) (by kernel_rfl) (by kernel_rfl) (by kernel_rfl) (by kernel_rfl) rfl rfl rfl rfl 59 63 (by decide)
        (fun K hK => wp_load_arr 23 (.tmp 58) rfl (some 59) rfl h 0 rfl (St8 s2) _ _ hst Try.underlying23 info8 hK)
        (fun K hK => wp_load_arr 23 (.tmp 58) rfl (some 59) rfl h 0 rfl (St8 s2) _ _ hst Try.underlying23 info8 hK)
        (fun K hK => wp_load_arr 65 (.tmp 62) rfl (some 63) rfl g o1 rfl (Lib.byteCells (x.take 64)).toArray _ _ hlf Try.underlying65 hi2 hK)
        (fun K hK => wp_load_arr 65 (.tmp 62) rfl (some 63) rfl g o1 rfl (Lib.byteCells (x.take 64)).toArray _ _ hlf Try.underlying65 hi2 hK) ?_
      simp only [Act.put, List.setIfInBounds_toArray, List.set_cons_zero, List.set_cons_succ]
      refine wpAny_one (i := 9) (by kernel_rfl) rfl rfl fun K hK => ?_
      go_simp
      refine (dMixed (lfB (x.take 64)) (lfB_lt _) _ (unhide hok1) _ (lf_is8 _ (unhide HXL)) tb _ (unhide HW).drew.tlt (unhide HW).drew.tab).mono ?_
      rintro e w4 ⟨rfl, hb4⟩
      rw [mix_lfB]
      have HW4 := hide ((unhide HW).drew.step hb4 (Sha.mix s2 (x.take 64)))
      have hth := ((unhide HW).drew.ha.below hb4).there
      clear HW hb4 hst hlf hi2
      generalize Sha.mix s2 (x.take 64) = s3 at *
      refine hK _ _ ?_
      clear hK K
      refine wpAny_take' 10 65 (.pointer (some ⟨h, 0, none⟩)) rfl rfl (by kernel_rfl) (by kernel_rfl) (by kernel_rfl) (fun _ _ _ h => h) rfl (fun u => by go_simp) ?_
      simp only [Act.put, List.setIfInBounds_toArray, List.set_cons_zero, List.set_cons_succ]
      refine wpAny_take' 11 66 (.pointer (some ⟨h, 0, none⟩)) rfl rfl (by kernel_rfl) (by kernel_rfl) (by kernel_rfl) (fun _ _ _ h => h) rfl (fun u => by go_simp) ?_
      simp only [Act.put, List.setIfInBounds_toArray, List.set_cons_zero, List.set_cons_succ]
      refine wpAny_one (i := 12) (by kernel_rfl) rfl rfl fun K hK => wp_store_arr 23 (.tmp 66) (.tmp 64) rfl rfl h 0 (St8 s3) rfl rfl hth info8 (St8_one s3) (hK _ _ ?_)
      clear hK K
      refine wpAny_done (by kernel_rfl) ?_ _
      clear hth
      generalize w4.setCells h 0 (St8 s3).toList = W5 at *
      go_wp2
      go_roundw
      case rel =>
        refine ⟨k + 1, cutO c1 64 o1, m1 - 64, c1 - 64, rfl, by omega, by omega, ?_, ?_⟩
        · have := unhide HK; exact hide (by omega)
        · rw [unhide HX, ← unhide HXD]
          exact hide ((unhide HW4).cut c1 64 (by rw [unhide HXM]; exact hc1))
      case measure => simp [sliceLen]; omega
    · have hlti : (m1 : Int) < 64 := by omega
      have hsa := sl64all h 8
      have hkk : k = (p.drop d).length / 64 := by have := unhide HK; omega
      have hxl : ((p.drop d).drop (64 * k)).length = m1 := by rw [List.length_drop]; have := unhide HK; omega
      obtain ⟨W6, hcp, ha6, hu6⟩ := copyLeft (r := 0) (q := (p.drop d).drop (64 * k)) (unhide HW).ha (some ⟨g, o1, none⟩) m1 c1 (by rw [hxl]; exact (Nat.min_eq_left (by omega)).symm) (by omega) (fun hp => ⟨_, rfl, fun j hj => by rw [Addr.add_mid]; exact (unhide HW).src j hj⟩)
      rw [hxl] at hcp
      simp only [Nat.add_zero, Nat.sub_zero] at hcp
      have HE : Hid (Hs W6 h (l ++ p) ∧ U1 w W6 h) := by
        refine ⟨⟨splice lf0 0 ((p.drop d).drop (64 * k)), ?_, ?_⟩, (unhide HW).u1.trans hu6⟩
        · rw [(unhide HF).1, List.length_append, ← unhide HN, ← unhide HM, ← unhide HD, ← hkk, unhide HL0, unhide HS1]
          exact ha6
        · have hx2 : (l ++ p).length % 64 = ((p.drop d).drop (64 * k)).length := by
            have e1 := unhide HQ
            have e2 := unhide HN
            have e3 := unhide HM
            have e4 := unhide HR
            have e5 := unhide HK
            rw [List.length_append, hxl, ← e2, ← e3]
            rw [e1] at e5
            rw [← e2] at e4
            omega
          have ht2 : Sha.tail (l ++ p) = (p.drop d).drop (64 * k) := by
            rw [(unhide HF).2, ← unhide HD, hkk]; rfl
          have hl0 := (unhide HW).ha.len
          have h3 := splice_take lf0 0 ((p.drop d).drop (64 * k)) (by omega)
          rw [Nat.zero_add, List.take_zero, List.nil_append] at h3
          rw [hx2, ht2]
          exact h3
      clear ha6 hu6 HW hkk
      go_wp2
      go_returns
      exact ⟨rfl, unhide HE⟩
end Go.Proofs.Ytpbifpbblinopaa
