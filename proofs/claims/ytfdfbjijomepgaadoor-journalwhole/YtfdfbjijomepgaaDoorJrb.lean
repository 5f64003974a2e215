/- JournalWhole: the calls of a round, with all else that lies there kept. -/
import Derived.Test.YtfdfbjijomepgaaDoorJra
namespace Go.Proofs.YtfdfbjijomepgaaDoor
open Go.RowKit

/-- a round as it came in -/
structure Rnd where
  pages : List Pg
  pa : Option Addr
  pc : Nat
  skip : Int
  fuse : Int
  calm : Bool
  ks : List Bool
  ka : Option Addr
  kc : Nat
  torn : Int
  cut : Int
def Rnd.cs (r : Rnd) : Array Value := #[.slice r.pa r.pages.length r.pc, .int .i64 r.skip, .int .i64 r.fuse, .bool r.calm, .slice r.ka r.ks.length r.kc, .int .i64 r.torn, .int .i64 r.cut]
structure Rnd.Lies (w : World) (r : Rnd) : Prop where
  pages : Pgs w r.pa r.pages
  fit : ∀ p ∈ r.pages, p.Fit
  len : r.pages.length ≤ 9223372036854775807
  fuse : r.fuse ≤ 9223372036854775807
  ks : D.Ks w r.ka r.ks []
def Rnds (w : World) (ao : Option Addr) (l : List Rnd) : Prop := (0 < l.length → ∃ g o, ao = some ⟨g, o, none⟩ ∧ ∀ (j : Nat) (hj : j < l.length), w.rangeAt g (o + j * 7) l[j].cs.toList) ∧ ∀ r ∈ l, r.Lies w
section
variable {w0 w w' : World} {B Dd : Nat} {F F' : List Nat} {d d' : D.Dk} {ks : List (Nat × Obj)}
/-- what Scan tells of the pages -/
def Told (w : World) (N : Nat) (pg : Nat → List UInt8) (f c : Nat) (wh : Bool) (sr : Nat) (p : Option Addr) (n : Nat) : Prop :=
  (wh = true ∧ batchOk (hdrOf pg f) (slotsOf pg f c) ∧ sr = (hdrOf pg f).ser ∧ n = (batchL (hdrOf pg f) (slotsOf pg f c)).length ∧ ∃ G, p = some ⟨G, 0, none⟩ ∧ N ≤ G ∧ Rp w G (batchL (hdrOf pg f) (slotsOf pg f c))) ∨
  (wh = false ∧ ¬ batchOk (hdrOf pg f) (slotsOf pg f c) ∧ sr = 0 ∧ p = none ∧ n = 0)
theorem Told.below {N : Nat} {pg : Nat → List UInt8} {f c : Nat} {wh : Bool} {sr n : Nat} {p : Option Addr} (h : Told w N pg f c wh sr p n) (hb : Below w.heap.size w w') : Told w' N pg f c wh sr p n := by
  rcases h with ⟨h1, h2, h3, h4, G, h5, h6, h7⟩ | h
  · exact .inl ⟨h1, h2, h3, h4, G, h5, h6, h7.same (hb.block G h7.lt)⟩
  · exact .inr h
theorem sScan2 (h : Sd w0 w B Dd F d ks) (hl : Lit d) (f c : Nat) (h1 : 1 ≤ c) (h2 : f + c ≤ d.lies.length) :
    Calls Tryd.prog 12 #[.iface 50 (.pointer (some ⟨Dd, 0, none⟩)), .int .i64 (f : Int), .int .i64 (c : Int)] w fun e w' => ∃ (wh : Bool) (sr : Nat) (p : Option Addr) (n : Nat), e = .returned (.tuple #[.agg #[.int .u64 (topK (pgOf d.lies) f c : Int), .bool wh, .int .u64 (sr : Int), .slice p n n], .int .i64 0]) ∧ Told w' w.heap.size (pgOf d.lies) f c wh sr p n ∧ Below w.heap.size w w' := by
  have hpg : d.page = pgOf d.lies := page_nil hl.pend
  refine (jScan h.dsk hl.off (by rw [hl.pend]; exact Nat.zero_le _) h.tab f c (refJ_zero h1 h2)).mono ?_
  rintro e w' ⟨k1, k2, k3⟩
  rw [hpg] at k1 k2
  by_cases hb : batchOk (hdrOf (pgOf d.lies) f) (slotsOf (pgOf d.lies) f c)
  · obtain ⟨G, he, hG, hR⟩ := k1 hb
    exact ⟨_, _, _, _, he, .inl ⟨rfl, hb, rfl, rfl, G, rfl, hG, hR⟩, k3⟩
  · exact ⟨false, 0, none, 0, k2 hb, .inr ⟨rfl, hb, rfl, rfl, rfl⟩, k3⟩
theorem sDurable (h : Sd w0 w B Dd F d ks) (n : Nat) (hn : d.lies.length = n) : Calls Tryd.prog 18 #[.pointer (some ⟨Dd, 0, none⟩)] w fun e w' => e = .returned (.slice (some ⟨w.heap.size, 0, none⟩) n n) ∧ Sd w0 w' B Dd F d ((w.heap.size, .cells (D.strs d.lies) 9 (0, 0)) :: ks) ∧ Below w.heap.size w w' := by
  subst hn
  refine (D.kDurableD h.dsk).mono ?_
  rintro e w' ⟨he, hb, hbel, _⟩
  exact ⟨he, h.new hbel hb (Nat.le_refl _), hbel⟩
theorem sFuse (h : Sd w0 w B Dd F d ks) (x : Int) (hx : x ≤ 9223372036854775807) : Calls Tryd.prog 19 #[.pointer (some ⟨Dd, 0, none⟩), .int .i64 x] w fun e w' => e = .returned (.tuple #[]) ∧ Sd w0 w' B Dd F (d.fused x) ks := by
  refine (D.kFuseD h.dsk x hx).mono ?_
  rintro e w' ⟨he, h1, h2⟩
  exact ⟨he, h.disk h1 h2 fun k hk => .inl hk⟩
theorem Sd.kb (h : Sd w0 w B Dd F d ks) {ao : Option Addr} {kb : List Bool} (hk : D.Ks w0 ao kb []) : D.Ks w ao kb F := fun h0 => by
  obtain ⟨g, o, h1, _, h3⟩ := hk h0
  have hg : g < w0.heap.size := World.block_lt_of_cell? w0 _ (h3 0 h0)
  exact ⟨g, o, h1, fun hx => by have := (h.dsk.ge g hx).1; have := h.w0B; omega, fun j hj => (h.bel.cell (p := ⟨g, o + j, none⟩) hg).trans (h3 j hj)⟩
theorem Sd.lent (h : Sd w0 w B Dd F d ks) {ao : Option Addr} {l : List Pg} (hk : Pgs w0 ao l) : Pgs w ao l := hk.below h.bel
theorem sCrash (h : Sd w0 w B Dd F d ks) (hm : d.pend.length ≤ 1000000000) (ao : Option Addr) (kb : List Bool) (n : Nat) (hn : n = kb.length) (kc : Nat) (torn cut : Int) (hk : D.Ks w0 ao kb []) : Calls Tryd.prog 20 #[.pointer (some ⟨Dd, 0, none⟩), .agg #[.slice ao n kc, .int .i64 torn, .int .i64 cut]] w fun e w' => e = .returned (.tuple #[]) ∧ ∃ F', Sd w0 w' B Dd F' (d.crash (D.share kb torn cut)) ks := by
  subst hn
  refine (D.kCrash h.dsk hm ao kb kc torn cut (h.kb hk)).mono ?_
  rintro e w' ⟨he, F', h1, h2, h3⟩
  exact ⟨he, F', h.disk h1 h2 fun k hk => .inl (h3 k hk)⟩
theorem sPutA (h : Sd w0 w B Dd F d ks) (hp : d.pend.length ≤ 999999000) (f c : Nat) (hc : c ≤ 4096) (s : Nat) (l : List Pg) (hl : ∀ p ∈ l, p.Fit) (n : Nat) (hn : n = l.length) (hn2 : n ≤ 1000) (g cap : Nat) (hP : Pgs w (some ⟨g, 0, none⟩) l) (hg : g ∉ F) (x : Int) (d' : D.Dk) (hr : putJ d (f : Int) (c : Int) s l = (x, d')) :
    Calls Tryd.prog 8 #[.iface 50 (.pointer (some ⟨Dd, 0, none⟩)), .int .i64 (f : Int), .int .i64 (c : Int), .int .u64 (s : Int), .slice (some ⟨g, 0, none⟩) n cap] w fun e w' => e = .returned (.int .i64 x) ∧ ∃ F', Sd w0 w' B Dd F' d' ks := by
  subst hn
  refine (jPut h.dsk h.hB h.b0 h.tab hp (f : Int) (c : Int) (by omega) s l hl _ cap hP (by omega) (fun g' o he => by cases he; exact hg) (x, d') hr.symm).mono ?_
  rintro e w' ⟨he, F', h1, h2, h3⟩
  exact ⟨he, F', h.disk h1 h2 h3⟩
/-- a list that a call made, and a block that tells of it -/
theorem Sd.own {M : Nat} {om : Obj} {base : Nat} {v : Value} {l : List Pg} (h : Sd w0 w B Dd F d ((M, om) :: ks)) (hB : ∀ k ∈ F, k < base) (ho : w.ownsRow base 70 4 v l.length (flatP l)) : ∃ gk ok bo cb, v = .slice bo l.length cb ∧ Sd w0 w B Dd F d ((gk, ok) :: (M, om) :: ks) ∧ (∀ u : World, u.heap[gk]? = some ok → u.ownsRow base 70 4 v l.length (flatP l) ∧ Pgs u bo l) := by
  rcases ho.2 with ⟨rfl, h0⟩ | ⟨g, c, cur, rfl, hg, hb, hr⟩
  · have hl0 : l = [] := List.length_eq_zero_iff.1 h0
    subst hl0
    exact ⟨M, om, none, 0, rfl, h.add (h.get 0 rfl) (h.out 0 rfl), fun u _ => ⟨World.ownsRow_nil _ _ _ _, Pgs.nil _ _⟩⟩
  · refine ⟨g, _, some ⟨g, 0, none⟩, c, rfl, h.add hb (fun hx => by have := hB g hx; omega), fun u hu => ?_⟩
    have hou : u.ownsRow base 70 4 (.slice (some ⟨g, 0, none⟩) l.length c) l.length (flatP l) := ⟨ho.1, .inr ⟨g, c, cur, rfl, hg, hu, hr⟩⟩
    refine ⟨hou, fun h0 => ?_⟩
    obtain ⟨g', c', he, _, _, _, hcs⟩ := own_pgs hou h0
    obtain rfl : g = g' := by
      have : (⟨g, 0, none⟩ : Addr) = ⟨g', 0, none⟩ := by simp at he; exact congrArg (fun x => (⟨x, 0, none⟩ : Addr)) he.1
      exact congrArg Addr.block this
    exact ⟨g, 0, rfl, fun j hj k hk => by rw [Nat.zero_add]; exact hcs j hj k hk⟩
end
theorem zeroRound : ((Tryd.prog.info? 58).bind (·.zero)).map (·.cells) = some #[.slice none 0 0, .int .i64 0, .int .i64 0, .bool false, .slice none 0 0, .int .i64 0, .int .i64 0] := by kernel_rfl
theorem roundInfo : (Tryd.prog.info? 58).map (·.size) = some 7 := by kernel_rfl
theorem ixRounds (g o n c i : Nat) (hi : i < n) (W : World) : (Instr.indexAt 49 (.slice (some ⟨g, o, none⟩) n c) (.int .i64 (i : Int))).run Tryd.prog W = .ok (.pointer (some ⟨g, o + i * 7, none⟩)) W := by
  have he : Tryd.prog.elem 49 = 58 := by kernel_rfl
  rw [run_indexAt_slice W 49 _ _ _ _ _ (by rw [he]; kernel_rfl), if_pos ⟨by omega, by omega⟩, he, sizeJ (n := 7) (by kernel_rfl)]
  simp only [Result.andThen_ok, Int.toNat_natCast, Addr.add_mid]
theorem round_one (a : Option Addr) (b c : Nat) (s f : Int) (k : Bool) (e : Option Addr) (g h : Nat) (t u : Int) : (#[.slice a b c, .int .i64 s, .int .i64 f, .bool k, .slice e g h, .int .i64 t, .int .i64 u] : Array Value).all (·.oneCell') = true := by
  rw [Array.all_eq_true']
  intro v hv
  simp only [List.mem_toArray, List.mem_cons, List.not_mem_nil, or_false] at hv
  rcases hv with rfl | rfl | rfl | rfl | rfl | rfl | rfl <;> rfl
end Go.Proofs.YtfdfbjijomepgaaDoor
