/- The journal: Put and Scan, with all else that lies there kept. -/
import Derived.Test.YtfdfbjijomepgaaDoorJs
namespace Go.Proofs.YtfdfbjijomepgaaDoor
open Go.RowKit

/-- a disk, and blocks beside it -/
structure Sd (w0 w : World) (B Dd : Nat) (F : List Nat) (d : D.Dk) (ks : List (Nat × Obj)) : Prop where
  dsk : D.Dsk B w Dd F d
  hB : B ≤ w.heap.size
  b0 : 0 < B
  tab : Tab w
  bel : Below w0.heap.size w0 w
  w0B : w0.heap.size ≤ B
  ks : ∀ p ∈ ks, w.heap[p.1]? = some p.2 ∧ p.1 ∉ F
section
variable {w0 w w' : World} {B Dd : Nat} {F F' : List Nat} {d d' : D.Dk} {ks : List (Nat × Obj)}
theorem Sd.below (h : Sd w0 w B Dd F d ks) (hb : Below w.heap.size w w') : Sd w0 w' B Dd F d ks :=
  ⟨h.dsk.below hb, Nat.le_trans h.hB hb.size, h.b0, h.tab.below hb h.tab.pos, h.bel.trans (hb.mono h.bel.size), h.w0B, fun p hp => ⟨(hb.block p.1 (Array.getElem?_eq_some_iff.1 (h.ks p hp).1).1).trans (h.ks p hp).1, (h.ks p hp).2⟩⟩
theorem Sd.disk (h : Sd w0 w B Dd F d ks) (hd : D.Dsk B w' Dd F' d') (hu : D.UpS w w' F) (hF : ∀ k ∈ F', k ∈ F ∨ w.heap.size ≤ k) : Sd w0 w' B Dd F' d' ks := by
  have hb : Below B w w' := hu.below h.hB fun k hk => (h.dsk.ge k hk).1
  refine ⟨hd, Nat.le_trans h.hB hu.size, h.b0, h.tab.below hb h.b0, h.bel.trans (hb.mono h.w0B), h.w0B, fun p hp => ?_⟩
  obtain ⟨h1, h2⟩ := h.ks p hp
  have hl := (Array.getElem?_eq_some_iff.1 h1).1
  exact ⟨(hu.block p.1 hl h2).trans h1, fun hk => (hF _ hk).elim h2 (fun h' => by omega)⟩
theorem Sd.add (h : Sd w0 w B Dd F d ks) {k : Nat} {o : Obj} (hk : w.heap[k]? = some o) (hn : k ∉ F) : Sd w0 w B Dd F d ((k, o) :: ks) :=
  ⟨h.dsk, h.hB, h.b0, h.tab, h.bel, h.w0B, fun p hp => by
    rcases List.mem_cons.1 hp with rfl | hp
    · exact ⟨hk, hn⟩
    · exact h.ks p hp⟩
theorem Sd.new (h : Sd w0 w B Dd F d ks) {k : Nat} {o : Obj} (hb : Below w.heap.size w w') (hk : w'.heap[k]? = some o) (hn : w.heap.size ≤ k) : Sd w0 w' B Dd F d ((k, o) :: ks) :=
  (h.below hb).add hk (fun hx => by have := (h.dsk.ge k hx).2; omega)
theorem Sd.get (h : Sd w0 w B Dd F d ks) (i : Nat) {k : Nat} {o : Obj} (hi : ks[i]? = some (k, o)) : w.heap[k]? = some o := (h.ks (k, o) (List.mem_of_getElem? hi)).1
theorem Sd.out (h : Sd w0 w B Dd F d ks) (i : Nat) {k : Nat} {o : Obj} (hi : ks[i]? = some (k, o)) : k ∉ F := (h.ks (k, o) (List.mem_of_getElem? hi)).2
open Classical in
theorem sPut (h : Sd w0 w B Dd F d ks) (hp : d.pend = []) (f c : Int) (hc : c ≤ 9223372036854775807) (s : Nat) (sI : Int) (hs : sI = (s : Int)) (l : List Pg) (hl : ∀ p ∈ l, p.Fit) (n : Nat) (hn : n = l.length) (hn2 : n ≤ 1000) (ao : Option Addr) (cap : Nat) (hP : Pgs w ao l) (hg : ∀ g o, ao = some ⟨g, o, none⟩ → g ∉ F) (x : Int) (d' : D.Dk) (hr : putJ d f c s l = (x, d')) :
    Calls Tryd.prog 8 #[.iface 50 (.pointer (some ⟨Dd, 0, none⟩)), .int .i64 f, .int .i64 c, .int .u64 sI, .slice ao n cap] w fun e w' => e = .returned (.int .i64 x) ∧ ∃ F', Sd w0 w' B Dd F' d' ks := by
  subst hs hn
  refine (jPut h.dsk h.hB h.b0 h.tab (by rw [hp]; exact Nat.zero_le _) f c hc s l hl ao cap hP (by omega) hg (x, d') hr.symm).mono ?_
  rintro e w' ⟨he, F', h1, h2, h3⟩
  exact ⟨he, F', h.disk h1 h2 h3⟩
theorem sScan (h : Sd w0 w B Dd F d ks) (hl : Lit d) (f c : Nat) (fI cI : Int) (hf : fI = (f : Int)) (hc : cI = (c : Int)) (h1 : 1 ≤ c) (h2 : f + c ≤ d.lies.length) (tp sr : Nat) (L : List Pg)
    (hok : batchOk (hdrOf (pgOf d.lies) f) (slotsOf (pgOf d.lies) f c)) (hL : batchL (hdrOf (pgOf d.lies) f) (slotsOf (pgOf d.lies) f c) = L) (hs : (hdrOf (pgOf d.lies) f).ser = sr) (ht : topK (pgOf d.lies) f c = tp) :
    Calls Tryd.prog 12 #[.iface 50 (.pointer (some ⟨Dd, 0, none⟩)), .int .i64 fI, .int .i64 cI] w fun e w' => ∃ G, e = .returned (.tuple #[.agg #[.int .u64 (tp : Int), .bool true, .int .u64 (sr : Int), .slice (some ⟨G, 0, none⟩) L.length L.length], .int .i64 0]) ∧ w.heap.size ≤ G ∧ Rp w' G L ∧ Below w.heap.size w w' := by
  subst hf hc
  have hpg : d.page = pgOf d.lies := page_nil hl.pend
  refine (jScan h.dsk hl.off (by rw [hl.pend]; exact Nat.zero_le _) h.tab f c (refJ_zero h1 h2)).mono ?_
  rintro e w' ⟨k1, _, k3⟩
  rw [hpg, hL, hs, ht] at k1
  obtain ⟨G, he, hG, hR⟩ := k1 hok
  exact ⟨G, he, hG, hR, k3⟩
end
theorem Pgs.nil (w : World) (ao : Option Addr) : Pgs w ao [] := fun h => absurd h (by simp)
/-- pages in a block, from its head on -/
theorem Pgs.blk {w : World} {g : Nat} {l : List Pg} {cs : Array Value} {t : TypeId} {fr : Nat × Nat} (h : w.heap[g]? = some (.cells cs t fr)) (hc : ∀ (j : Nat) (hj : j < l.length) (k : Nat), k < 4 → cs[j * 4 + k]? = (l[j].cs)[k]?) : Pgs w (some ⟨g, 0, none⟩) l := fun _ => ⟨g, 0, rfl, fun j hj k hk => by rw [Nat.zero_add, cellOf h]; exact hc j hj k hk⟩
/-- the list of JournalNone -/
def nonePg (i : Nat) : Pg := ⟨1, i, 0, ⟨#[]⟩⟩
def noneL (n : Nat) : List Pg := (List.range n).map nonePg
theorem noneL_len (n : Nat) : (noneL n).length = n := by simp [noneL]
theorem noneL_at (n i : Nat) (h : i < (noneL n).length) : (noneL n)[i] = nonePg i := by simp [noneL]
theorem noneL_rises (n : Nat) : rises (noneL n) := fun i hi _ => by
  rw [noneL_at n i (by omega), noneL_at n (i + 1) hi]
  show i < i + 1
  omega
theorem noneL_fit (n : Nat) (hn : n ≤ 1000) : ∀ p ∈ noneL n, p.Fit := fun p hp => by
  obtain ⟨i, hi, rfl⟩ := List.mem_map.1 hp
  rw [List.mem_range] at hi
  exact ⟨by show 1 < 256; decide, by show i < 4294967296; omega, by show 0 < 18446744073709551616; decide⟩
theorem noneL_body (n : Nat) : ∀ p ∈ noneL n, p.body.size ≤ 996 := fun p hp => by
  obtain ⟨i, _, rfl⟩ := List.mem_map.1 hp
  exact Nat.zero_le _
theorem noneL_ok (s n r : Nat) (h0 : s ≠ 0) (h1 : s ≤ 4611686018427387904) (h2 : n ≤ r) : wrongOk s (noneL n) (r : Nat) := ⟨h0, h1, by rw [noneL_len]; omega, noneL_rises n, noneL_body n⟩
theorem noneL_sub {w : World} {ao : Option Addr} {m n : Nat} (h : Pgs w ao (noneL m)) (hn : n ≤ m) : Pgs w ao (noneL n) := fun h0 => by
  rw [noneL_len] at h0
  obtain ⟨g, o, h1, h2⟩ := h (by rw [noneL_len]; omega)
  refine ⟨g, o, h1, fun j hj k hk => ?_⟩
  have hj2 : j < (noneL m).length := by rw [noneL_len] at hj ⊢; omega
  rw [h2 j hj2 k hk, noneL_at m j hj2, noneL_at n j hj]
end Go.Proofs.YtfdfbjijomepgaaDoor
