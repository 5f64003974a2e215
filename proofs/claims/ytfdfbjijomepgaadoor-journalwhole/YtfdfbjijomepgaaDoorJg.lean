/- The journal: Put, on a disk. -/
import Derived.Test.YtfdfbjijomepgaaDoorJf
namespace Go.Proofs.YtfdfbjijomepgaaDoor
open Go.RowKit

def slotP (f s i : Nat) (p : Pg) : Pg := ⟨67, f + 1 + i, s, p.body⟩
def hdrP (f s : Nat) (l : List Pg) : Pg := ⟨74, f, s, ⟨(listB l).toArray⟩⟩
/-- behind k slots -/
def putK (d : D.Dk) (f s : Nat) (l : List Pg) : Nat → Int × D.Dk
  | 0 => (0, d)
  | k + 1 => Noted (putK d f s l k).1 (putK d f s l k).2 ((putK d f s l k).2.write ((f + 1 + k : Nat) : Int) (slotP f s k (l.getD k ⟨0, 0, 0, ⟨#[]⟩⟩)).enc)
/-- .. and the header -/
def putH (d : D.Dk) (f s : Nat) (l : List Pg) : Int × D.Dk := Noted (putK d f s l l.length).1 (putK d f s l l.length).2 ((putK d f s l l.length).2.write (f : Int) (hdrP f s l).enc)
def putS (d : D.Dk) (f s : Nat) (l : List Pg) : Int × D.Dk := Noted (putH d f s l).1 (putH d f s l).2 (putH d f s l).2.sync
open Classical in
/-- what Put answers, and the disk behind it -/
noncomputable def putJ (d : D.Dk) (f c : Int) (s : Nat) (l : List Pg) : Int × D.Dk :=
  if refJ f c d.lies.length ≠ 0 then (refJ f c d.lies.length, d) else if wrongB s l (room c) ≠ 0 then (wrongB s l (room c), d) else putS d f.toNat s l
theorem write_pend (d : D.Dk) (x : Int) (b : List UInt8) : (d.write x b).2.pend.length ≤ d.pend.length + 1 := by
  unfold D.Dk.write
  split
  · simp
  · split
    · simp
    · split
      · simp [D.Dk.asked_pend]
      · simp [D.Dk.put, D.Dk.asked_pend]
theorem write_lies (d : D.Dk) (x : Int) (b : List UInt8) : (d.write x b).2.lies = d.lies := by
  unfold D.Dk.write
  split
  · rfl
  · split
    · rfl
    · split
      · exact D.Dk.asked_lies d
      · simp [D.Dk.put, D.Dk.asked_lies]
theorem noted_pend (c : Int) (d : D.Dk) (x : Int) (b : List UInt8) : (Noted c d (d.write x b)).2.pend.length ≤ d.pend.length + 1 := by
  unfold Noted
  split
  · exact write_pend d x b
  · exact Nat.le_succ _
theorem noted_lies (c : Int) (d : D.Dk) (x : Int) (b : List UInt8) : (Noted c d (d.write x b)).2.lies = d.lies := by
  unfold Noted
  split
  · exact write_lies d x b
  · rfl
theorem putK_pend (d : D.Dk) (f s : Nat) (l : List Pg) : ∀ k, (putK d f s l k).2.pend.length ≤ d.pend.length + k
  | 0 => Nat.le_refl _
  | k + 1 => by
    have h1 := putK_pend d f s l k
    have h2 := noted_pend (putK d f s l k).1 (putK d f s l k).2 ((f + 1 + k : Nat) : Int) (slotP f s k (l.getD k ⟨0, 0, 0, ⟨#[]⟩⟩)).enc
    rw [putK]
    omega
theorem putK_lies (d : D.Dk) (f s : Nat) (l : List Pg) : ∀ k, (putK d f s l k).2.lies = d.lies
  | 0 => rfl
  | k + 1 => by rw [putK, noted_lies, putK_lies d f s l k]
theorem listB_len (l : List Pg) (h : l.length ≤ 198) : (listB l).length ≤ 996 := by
  have h1 : ∀ n : Fin 199, (uintB 9 n.1).length ≤ 2 := by decide +kernel
  have h2 := h1 ⟨l.length, by omega⟩
  simp only at h2
  rw [listB, List.length_append, hdr_len]
  omega
section
variable {B : Nat} {u : World} {Dd : Nat} {F : List Nat} {d : D.Dk}
/-- nothing is wrong with a batch -/
def wrongOk (s : Nat) (l : List Pg) (r : Int) : Prop := s ≠ 0 ∧ s ≤ 4611686018427387904 ∧ (l.length : Int) ≤ r ∧ rises l ∧ ∀ p ∈ l, p.body.size ≤ 996
theorem wrong_zero {s : Nat} {l : List Pg} {r : Int} (h : wrongB s l r = 0) : wrongOk s l r := by
  unfold wrongB at h
  split at h
  · cases h
  · split at h
    · cases h
    · split at h
      · cases h
      · split at h
        · cases h
        · rename_i h1 h2 h3 h4
          refine ⟨fun e => h1 (.inl e), by omega, by omega, by simpa using h3, fun p hp => ?_⟩
          exact Nat.le_of_not_lt fun hx => h4 ⟨p, hp, hx⟩
theorem Pgs.up {u' : World} {ao : Option Addr} {l : List Pg} {G : List Nat} (h : Pgs u ao l) (hu : D.UpS u u' G) (hg : ∀ g o, ao = some ⟨g, o, none⟩ → g ∉ G) : Pgs u' ao l := fun h0 => by
  obtain ⟨g, o, h1, h2⟩ := h h0
  refine ⟨g, o, h1, fun j hj k hk => ?_⟩
  have h3 := h2 j hj k hk
  have hs : k < (l[j].cs).size := hk
  rw [Array.getElem?_eq_getElem hs] at h3 ⊢
  rw [hu.cell (p := ⟨g, o + j * 4 + k, none⟩) (World.block_lt_of_cell? u _ h3) (hg g o h1)]
  exact h3
set_option maxRecDepth 100000 in
set_option maxHeartbeats 1000000 in
/-- do, with the device's Sync -/
theorem jDoSync {Nd Ns Nn No s : Nat} {c : Int} (h : Pu B u Dd Nd Ns Nn No F d s c) (hm : d.pend.length ≤ 1000000000) (r : Int × D.Dk) (hr : r = Noted c d d.sync) :
    Calls Tryd.prog 30 #[.func (.method "Sync") #[.iface 50 (.pointer (some ⟨Dd, 0, none⟩))] #[], .pointer (some ⟨Nn, 0, none⟩)] u fun e u' => e = .returned (.tuple #[]) ∧ ∃ F', Pu B u' Dd Nd Ns Nn No F' r.2 s r.1 ∧ D.UpS u u' (Nn :: F) ∧ ∀ k ∈ F', k ∈ F ∨ u.heap.size ≤ k := by
  by_cases hc : c = 0
  · subst hc
    rw [Noted, if_pos rfl] at hr
    have HA := hide (D.kSyncN h.dsk hm r hr.symm)
    have zn := h.bn.cell
    have HP := hide h
    clear hr h hm
    go_enter Tryd.func30, Tryd.ntmps30
    go_wp2_with fail
    refine (unhide HA).mono ?_
    rintro e w1 ⟨rfl, F1, hd, hu, hF⟩
    have HP1 := hide ((unhide HP).disk hd hu (fun k hk => .inl (hF k hk)))
    have zn1 := (unhide HP1).bn.cell
    have fn1 := (unhide HP1).bn.frozen
    have HU := hide hu
    have HF := hide hF
    clear hd hu hF zn HA
    go_wp2
    go_returns
    exact ⟨rfl, F1, (unhide HP1).note _, ((unhide HU).mono fun k hk => .inl (List.mem_cons_of_mem _ hk)).setCell (.inl (by simp)) _, fun k hk => .inl (unhide HF k hk)⟩
  · rw [Noted, if_neg hc] at hr
    subst hr
    have zn := h.bn.cell
    have HP := hide h
    clear h hm
    go_enter Tryd.func30, Tryd.ntmps30
    go_wp2
    go_returns
    exact ⟨rfl, F, unhide HP, D.UpS.refl _ _, fun k hk => .inl hk⟩
open Classical in
set_option maxRecDepth 100000 in
set_option maxHeartbeats 4000000 in
theorem jPut (h : D.Dsk B u Dd F d) (hB : B ≤ u.heap.size) (b0 : 0 < B) (hT : Tab u) (hm : d.pend.length ≤ 999999000) (f c : Int) (hc : c ≤ 9223372036854775807) (s : Nat) (l : List Pg) (hl : ∀ p ∈ l, p.Fit) (ao : Option Addr) (cap : Nat) (hP : Pgs u ao l) (hn : l.length ≤ 1000000) (hg : ∀ g o, ao = some ⟨g, o, none⟩ → g ∉ F) (r : Int × D.Dk) (hr : r = putJ d f c s l) :
    Calls Tryd.prog 8 #[.iface 50 (.pointer (some ⟨Dd, 0, none⟩)), .int .i64 f, .int .i64 c, .int .u64 (s : Int), .slice ao l.length cap] u fun e u' => e = .returned (.int .i64 r.1) ∧ ∃ F', D.Dsk B u' Dd F' r.2 ∧ D.UpS u u' F ∧ ∀ k ∈ F', k ∈ F ∨ u.heap.size ≤ k := by
  obtain ⟨n, hnn⟩ : ∃ n, n = l.length := ⟨_, rfl⟩
  have HNN := hide hnn
  obtain ⟨u1, hu1⟩ : ∃ z, z = (u.alloc (.cells #[.iface 50 (.pointer (some ⟨Dd, 0, none⟩))] 80)).alloc (.cells #[.int .u64 (s : Int)] 22) := ⟨_, rfl⟩
  have hb1 : Below u.heap.size u u1 := by rw [hu1]; exact ((Below.refl _ u).alloc (Nat.le_refl _) _).alloc (by simp) _
  have HBD : Hid (Bx u1 u.heap.size 80 (.iface 50 (.pointer (some ⟨Dd, 0, none⟩)))) := by rw [hu1]; exact (Bx.new u _ _).alloc _
  have HBS : Hid (Bx u1 (u.heap.size + 1) 22 (.int .u64 (s : Int))) := by
    rw [hu1]
    have := Bx.new (u.alloc (.cells #[.iface 50 (.pointer (some ⟨Dd, 0, none⟩))] 80)) 22 (.int .u64 (s : Int))
    rwa [World.size_alloc] at this
  have HSZ : Hid (u1.heap.size = u.heap.size + 2) := by show _ = _; rw [hu1]; simp
  have HRF := hide (jRefused (h.below hb1) f c)
  have HH := hide h
  have HB1 := hide hb1
  have HU1 := hide hu1
  have HPG := hide hP
  have HR := hide hr
  have HL := hide hl
  have HTB := hide hT
  have HG := hide hg
  have hni : (n : Int) ≤ 1000000 := by omega
  have HBB : Hid (B ≤ u.heap.size ∧ 0 < B ∧ d.pend.length ≤ 999999000) := ⟨hB, b0, hm⟩
  obtain ⟨e1, he1⟩ : ∃ z, z = refJ f c d.lies.length := ⟨_, rfl⟩
  rw [← he1] at HRF
  have HE1 := hide he1
  rw [← hnn]
  have zd := (unhide HBD).cell
  rw [hu1] at zd
  clear h hb1 hu1 hP hr hl hT hg hn hnn he1 hB b0 hm
  go_enter Tryd.func8, Tryd.ntmps8
  go_wp2_with fail
  rw [← unhide HU1]
  rw [← unhide HU1] at zd
  clear HU1
  refine (unhide HRF).mono ?_
  rintro e w1 ⟨rfl, hw⟩
  obtain rfl := hw.symm
  clear hw HRF zd
  by_cases h1 : e1 = 0
  · subst h1
    have hfc : 0 ≤ f ∧ 1 ≤ c ∧ f + c ≤ (d.lies.length : Int) ∧ d.lies.length ≤ 4096 := by
      have h1 := unhide HE1
      have h2 := (unhide HH).ok.max
      unfold refJ at h1
      split at h1
      · cases h1
      · omega
    obtain ⟨fn, rfl⟩ : ∃ fn : Nat, f = (fn : Int) := ⟨f.toNat, by omega⟩
    have HFC := hide hfc
    have hfn : (fn : Int) ≤ 4096 := by omega
    obtain ⟨rc, hrc⟩ : ∃ z, z = room c := ⟨_, rfl⟩
    have HRM := hide (fun v => jRoom c hc v)
    rw [← hrc] at HRM
    have HRC := hide hrc
    obtain ⟨e2, he2⟩ : ∃ z, z = wrongB s l rc := ⟨_, rfl⟩
    have HE2 := hide he2
    have HWR := hide (fun (v : World) (hv : Below u.heap.size u v) => jWrong s l rc ao cap v ((unhide HPG).below hv) (by have := unhide HNN; omega))
    rw [← unhide HNN, ← he2] at HWR
    have zs := (unhide HBS).cell
    clear hrc he2 hfc
    go_wp2
    go_region_held3 (fun v => v.cell? ⟨u.heap.size + 1, 0, none⟩ = some (.int .u64 (s : Int))) (first | exact zs | exact zs2 | (go_keep; done)) (first | (go_at_call 17; refine (unhide HRM _).mono ?_; rintro e w1 ⟨rfl, hw⟩; obtain rfl := hw.symm; clear hw) | (go_at_call 29; refine (unhide HWR _ (by exact ⟨(unhide HB1).os, (unhide HB1).tape, (unhide HB1).output, (unhide HB1).size, (unhide HB1).block⟩)).mono ?_; rintro e w2 ⟨rfl, hw2⟩; have HB2 := hide hw2; have zs2 := (hw2.cell (p := ⟨u.heap.size + 1, 0, none⟩) (by show u.heap.size + 1 < u1.heap.size; rw [unhide HSZ]; omega)).trans zs; clear hw2))
    have HB3 : Hid (Below u1.heap.size u1 w2) := ⟨(unhide HB2).os, (unhide HB2).tape, (unhide HB2).output, (unhide HB2).size, (unhide HB2).block⟩
    clear HB2 HWR HRM zs
    by_cases h2 : e2 = 0
    · subst h2
      have HRR : Hid (r = putS d fn s l) := by
        show _ = _
        rw [unhide HR, putJ, ← unhide HE1, if_neg (by simp), ← unhide HRC, ← unhide HE2, if_neg (by simp)]
        simp
      clear zs2
      have hmf : ∀ (fn : Fn) (first cap : Array Value) (w : World), (Instr.makeFunc fn first cap).run Tryd.prog w = .ok (.func fn first cap) w := fun _ _ _ _ => rfl
      have hsf : ∀ (a : Addr) (m : Mode) (u : World) (fn : Fn) (fi lb : Array Value), (store a (.func fn fi lb) m).run Tryd.prog u = stored Tryd.prog u a (.func fn fi lb) m := fun a m u _ _ _ => run_store _ u a _ m rfl
      obtain ⟨w3, hw3⟩ : ∃ z, z = (w2.alloc (.cells #[.int .i64 0] 27)).alloc (.cells #[.func (.func 30) #[] #[.pointer (some ⟨w2.heap.size, 0, none⟩)]] 83) := ⟨_, rfl⟩
      have hb3 : Below w2.heap.size w2 w3 := by rw [hw3]; exact ((Below.refl _ w2).alloc (Nat.le_refl _) _).alloc (by simp) _
      have HB5 : Hid (Below u1.heap.size u1 w3) := (unhide HB3).trans (hb3.mono (unhide HB3).size)
      have HB4 : Hid (Below u.heap.size u w3) := (unhide HB1).trans ((unhide HB5).mono (unhide HB1).size)
      have HBN : Hid (Bx w3 w2.heap.size 27 (.int .i64 0)) := by rw [hw3]; exact (Bx.new w2 _ _).alloc _
      have HBO : Hid (Bx w3 (w2.heap.size + 1) 83 (.func (.func 30) #[] #[.pointer (some ⟨w2.heap.size, 0, none⟩)])) := by
        rw [hw3]
        have := Bx.new (w2.alloc (.cells #[.int .i64 0] 27)) 83 (.func (.func 30) #[] #[.pointer (some ⟨w2.heap.size, 0, none⟩)])
        rwa [World.size_alloc] at this
      have HW3 := hide hw3
      have HPU : Hid (Pu B w3 Dd u.heap.size (u.heap.size + 1) w2.heap.size (w2.heap.size + 1) F d s 0) := by
        have hs1 := unhide HSZ
        have hs2 := (unhide HB3).size
        have hbb := unhide HBB
        have hF := (unhide HH).ge
        refine ⟨(unhide HH).below (unhide HB4), Nat.le_trans hbb.1 (unhide HB4).size, ((unhide HB5).block _ (by omega)).trans (unhide HBD), ((unhide HB5).block _ (by omega)).trans (unhide HBS), unhide HBN, unhide HBO, ⟨fun hk => ?_, fun hk => ?_, fun hk => ?_, fun hk => ?_⟩, ⟨by omega, by omega, by omega⟩, (unhide HTB).below (unhide HB4) (unhide HTB).pos, hbb.2.1, by omega, by omega, by omega, by omega⟩
        all_goals have := (hF _ hk).2; omega
      obtain ⟨Nn, hNn⟩ : ∃ z, z = w2.heap.size := ⟨_, rfl⟩
      have HNN2 : Hid (u.heap.size + 2 ≤ Nn) := by have := unhide HSZ; have := (unhide HB3).size; show _ ≤ _; omega
      have HWW : Hid (wrongOk s l rc) := wrong_zero (unhide HE2).symm
      go_wp2
      rw [← unhide HW3]
      rw [← hNn] at HPU HBN HBO ⊢
      clear HW3 hw3 hb3 HBD HBS HBN HBO HB3 HB5 HSZ HTB hNn HE2
      go_loopw [36] (fun i wr => ∃ (k : Nat) (F' : List Nat), k ≤ n ∧ i = .int .i64 k ∧ Hid (Pu B wr Dd u.heap.size (u.heap.size + 1) Nn (Nn + 1) F' (putK d fn s l k).2 s (putK d fn s l k).1 ∧ D.UpS u wr F ∧ ∀ x ∈ F', x ∈ F ∨ u.heap.size ≤ x)) (fun i _ => n - (intOf i).toNat)
      case atStart => exact ⟨0, F, Nat.zero_le _, rfl, unhide HPU, D.UpS.ofBelow _ (unhide HB4), fun x hx => .inl hx⟩
      case round =>
        clear HPU HB4
        obtain ⟨k, F', hk, rfl, HI⟩ := hrel
        by_cases hlt : k < n
        · have hki : (k : Int) < (n : Int) := by omega
          have hkl : k < l.length := by rw [← unhide HNN]; exact hlt
          obtain ⟨g, o, hao, hcs⟩ := ((unhide HPG).up (unhide HI).2.1 (unhide HG)) (by omega)
          subst hao
          have hix := ixPages g o n cap k hlt
          obtain ⟨bd, hbd⟩ : ∃ z, z = l[k].body := ⟨_, rfl⟩
          have c3 : wr.cell? ⟨g, o + k * 4 + 3, none⟩ = some (.string bd) := by rw [hcs k hkl 3 (by decide), hbd]; rfl
          have HGF : Hid (g ∉ F ∧ g < u.heap.size) := ⟨unhide HG g o rfl, by
            obtain ⟨g', o', e', h'⟩ := unhide HPG (by omega)
            cases e'
            have h3 := h' k hkl 3 (by decide)
            have hs : 3 < (l[k].cs).size := by show 3 < 4; decide
            rw [Array.getElem?_eq_getElem hs] at h3
            exact World.block_lt_of_cell? u _ h3⟩
          have hww := unhide HWW
          have hn198 : n ≤ 198 := by
            have h1 := hww.2.2.1
            have h2 := unhide HRC
            have h3 := unhide HNN
            unfold room at h2
            split at h2
            · omega
            · split at h2 <;> omega
          have HSL := hide (fun v => jSlotAt fn k (by omega) v)
          have HNG : Hid (g ∉ Nn :: F') := fun hx => by
            have h1 := unhide HGF
            rcases List.mem_cons.1 hx with h | h
            · have := unhide HNN2
              omega
            · exact ((unhide HI).2.2 _ h).elim h1.1 (fun h' => by omega)
          have HFX : Hid (∀ (w5 : World) (F2 : List Nat), Pu B w5 Dd u.heap.size (u.heap.size + 1) Nn (Nn + 1) F2 (putK d fn s l (k + 1)).2 s (putK d fn s l (k + 1)).1 → D.UpS wr w5 (Nn :: F') → (∀ x ∈ F2, x ∈ F' ∨ wr.heap.size ≤ x) → Pu B w5 Dd u.heap.size (u.heap.size + 1) Nn (Nn + 1) F2 (putK d fn s l (k + 1)).2 s (putK d fn s l (k + 1)).1 ∧ D.UpS u w5 F ∧ ∀ x ∈ F2, x ∈ F ∨ u.heap.size ≤ x) := fun w5 F2 hp2 hup hF2 => by
            refine ⟨hp2, (unhide HI).2.1.trans hup fun x hx => ?_, fun x hx => (hF2 x hx).elim (fun h => (unhide HI).2.2 x h) (fun h => .inr (Nat.le_trans (unhide HI).2.1.size h))⟩
            rcases List.mem_cons.1 hx with h | h
            · right
              have := unhide HNN2
              omega
            · exact (unhide HI).2.2 x h
          have HLY := hide (fun (v : World) (hv : Pu B v Dd u.heap.size (u.heap.size + 1) Nn (Nn + 1) F' (putK d fn s l k).2 s (putK d fn s l k).1) => jLay ⟨67, fn + 1 + k, s, bd⟩ hv (by have := putK_pend d fn s l k; have := unhide HBB; omega) ⟨by show 67 < 256; decide, by show fn + 1 + k < 4294967296; omega, by show s < 18446744073709551616; have := hww.2.1; omega⟩ (Pg.wrong_ok (p := ⟨67, fn + 1 + k, s, bd⟩) hww.2.1 (by show bd.size ≤ 996; rw [hbd]; exact hww.2.2.2.2 _ (List.getElem_mem hkl))) (by show fn + 1 + k ≤ 1000000; omega) (putK d fn s l (k + 1)) (by rw [putK, List.getD_eq_getElem?_getD, List.getElem?_eq_getElem hkl]; simp only [Option.getD_some, slotP, ← hbd]))
          simp only at HLY
          rw [show ((67 : Nat) : Int) = 67 from rfl] at HLY
          have HI0 := hide (unhide HI).1
          obtain ⟨nm, hnm⟩ : ∃ z, z = fn + 1 + k := ⟨_, rfl⟩
          rw [← hnm] at HSL HLY
          have HNM := hide hnm
          generalize o + k * 4 = j1 at *
          clear hcs hww hbd hnm
          go_wp2
          go_region_held3 (fun v => v.cell? ⟨g, j1 + 3, none⟩ = some (.string bd)) (first | exact c3 | exact y3 | (go_keep; done)) (first | (go_at_call 34; refine (unhide HSL _).mono ?_; rintro e w1 ⟨rfl, hw⟩; obtain rfl := hw.symm; clear hw) | (go_at_call 31; refine (unhide HLY _ (by exact (unhide HI0).below ⟨rfl, rfl, rfl, Nat.le_refl _, fun _ _ => rfl⟩)).mono ?_; rintro e w5 ⟨rfl, F2, hp2, hup, hF2⟩; have y3 : w5.cell? ⟨g, j1 + 3, none⟩ = some (.string bd) := (hup.cell (p := ⟨g, j1 + 3, none⟩) (World.block_lt_of_cell? wr _ c3) (unhide HNG)).trans c3; have HX := hide (unhide HFX w5 F2 hp2 ⟨hup.os, hup.tape, hup.output, hup.size, hup.block⟩ hF2); clear hp2 hup hF2))
          clear c3 y3
          go_wp2
          go_roundw
          case rel => exact ⟨k + 1, F2, by omega, by go_num, unhide HX⟩
          case measure => simp [intOf]; omega
        · have hkk : k = n := by omega
          subst hkk
          have hww := unhide HWW
          have hn198 : k ≤ 198 := by
            have h1 := hww.2.2.1
            have h2 := unhide HRC
            have h3 := unhide HNN
            unfold room at h2
            split at h2
            · omega
            · split at h2 <;> omega
          have HLS := hide (fun (v : World) (hv : D.UpS u v F) => jListing l (unhide HL) ao cap v ((unhide HPG).up hv (unhide HG)) (by have := unhide HNN; omega))
          rw [← unhide HNN] at HLS
          have HP1 : Hid (Pu B wr Dd u.heap.size (u.heap.size + 1) Nn (Nn + 1) F' (putK d fn s l l.length).2 s (putK d fn s l l.length).1) := by rw [← unhide HNN]; exact (unhide HI).1
          have HLY := hide (fun (v : World) (hv : Pu B v Dd u.heap.size (u.heap.size + 1) Nn (Nn + 1) F' (putK d fn s l l.length).2 s (putK d fn s l l.length).1) => jLay ⟨74, fn, s, ⟨(listB l).toArray⟩⟩ hv (by have := putK_pend d fn s l l.length; have := unhide HBB; have := unhide HNN; omega) ⟨by show 74 < 256; decide, by show fn < 4294967296; omega, by show s < 18446744073709551616; have := hww.2.1; omega⟩ (Pg.wrong_ok (p := ⟨74, fn, s, ⟨(listB l).toArray⟩⟩) hww.2.1 (by show (⟨(listB l).toArray⟩ : ByteArray).size ≤ 996; have := listB_len l (by have := unhide HNN; omega); simpa [ByteArray.size] using this)) (by show fn ≤ 1000000; omega) (putH d fn s l) (by rw [putH]; rfl))
          simp only at HLY
          rw [show ((74 : Nat) : Int) = 74 from rfl] at HLY
          clear hww
          have hki : ¬ (k : Int) < (k : Int) := by omega
          go_wp2_with fail
          refine (unhide HLS _ (unhide HI).2.1).mono ?_
          rintro e w6 ⟨rfl, hb6⟩
          have HP6 := hide ((unhide HP1).below hb6)
          have HU6 : Hid (D.UpS u w6 F) := (unhide HI).2.1.trans (D.UpS.ofBelow [] hb6) (fun x hx => by simp at hx)
          have HF6 := hide (unhide HI).2.2
          clear hb6 HLS
          go_wp2_with fail
          refine (unhide HLY _ (unhide HP6)).mono ?_
          rintro e w7 ⟨rfl, F7, hp7, hu7, hf7⟩
          have HU7 : Hid (D.UpS u w7 F) := (unhide HU6).trans hu7 fun x hx => by
            rcases List.mem_cons.1 hx with h | h
            · right
              have := unhide HNN2
              omega
            · exact unhide HF6 x h
          have HF7 : Hid (∀ x ∈ F7, x ∈ F ∨ u.heap.size ≤ x) := fun x hx => (hf7 x hx).elim (fun h => unhide HF6 x h) (fun h => .inr (Nat.le_trans (unhide HU6).size h))
          have HP7 := hide hp7
          clear hp7 hu7 hf7 HLY HP6 HU6 HF6 HP1
          have HDS := hide (fun (v : World) (hv : Pu B v Dd u.heap.size (u.heap.size + 1) Nn (Nn + 1) F7 (putH d fn s l).2 s (putH d fn s l).1) => jDoSync hv (by have h1 := putK_pend d fn s l l.length; have h2 := noted_pend (putK d fn s l l.length).1 (putK d fn s l l.length).2 (fn : Int) (hdrP fn s l).enc; have h3 := unhide HBB; have h4 := unhide HNN; rw [putH]; omega) (putS d fn s l) rfl)
          have x1 := (unhide HP7).bo.cell
          have x2 := (unhide HP7).bd.cell
          go_wp2
          go_region_held3 (fun v => v.cell? ⟨Nn + 1, 0, none⟩ = some (.func (.func 30) #[] #[.pointer (some ⟨Nn, 0, none⟩)]) ∧ v.cell? ⟨u.heap.size, 0, none⟩ = some (.iface 50 (.pointer (some ⟨Dd, 0, none⟩)))) (first | exact ⟨x1, x2⟩ | exact ⟨y1, y2⟩ | (go_keep; done)) (first | (go_at_call 30; refine (unhide HDS _ (by exact (unhide HP7).below ⟨rfl, rfl, rfl, Nat.le_refl _, fun _ _ => rfl⟩)).mono ?_; rintro e w8 ⟨rfl, F8, hp8, hu8, hf8⟩; have y1 := hp8.bo.cell; have y2 := hp8.bd.cell; have HU8 : Hid (D.UpS w7 w8 (Nn :: F7)) := ⟨hu8.os, hu8.tape, hu8.output, hu8.size, hu8.block⟩; have HF8 : Hid (∀ x ∈ F8, x ∈ F7 ∨ w7.heap.size ≤ x) := hf8; have HP8 := hide hp8; clear hp8 hu8 hf8))
          have HU9 : Hid (D.UpS u w8 F) := (unhide HU7).trans (unhide HU8) fun x hx => by
            rcases List.mem_cons.1 hx with h | h
            · right
              have := unhide HNN2
              omega
            · exact unhide HF7 x h
          have HF9 : Hid (∀ x ∈ F8, x ∈ F ∨ u.heap.size ≤ x) := fun x hx => (unhide HF8 x hx).elim (fun h => unhide HF7 x h) (fun h => .inr (Nat.le_trans (unhide HU7).size h))
          have zn := (unhide HP8).bn.cell
          clear x1 x2 y1 y2
          go_wp2
          go_ret
          rw [unhide HRR]
          exact ⟨rfl, F8, (unhide HP8).dsk, unhide HU9, unhide HF9⟩
    · have HRR : Hid (r = (e2, d)) := by
        show _ = _
        rw [unhide HR, putJ, ← unhide HE1, if_neg (by simp), ← unhide HRC, ← unhide HE2, if_pos h2]
      clear zs2
      go_wp2
      go_ret
      rw [unhide HRR]
      have hb : Below u.heap.size u w2 := (unhide HB1).trans ((unhide HB3).mono (unhide HB1).size)
      exact ⟨rfl, F, (unhide HH).below hb, D.UpS.ofBelow _ hb, fun k hk => .inl hk⟩
  · have HRR : Hid (r = (e1, d)) := by show _ = _; rw [unhide HR, putJ, ← unhide HE1, if_pos h1]
    go_wp2
    go_ret
    rw [unhide HRR]
    exact ⟨rfl, F, (unhide HH).below (unhide HB1), D.UpS.ofBelow _ (unhide HB1), fun k hk => .inl hk⟩
end
end Go.Proofs.YtfdfbjijomepgaaDoor
