/- The page: a writer (of the wire's texts). -/
import Derived.Test.YtfdfbjijomepgaaDoorPa
import Derived.Test.YtfdfbjijomepgaaDoorOwn
import Derived.Laws.BitsAllLaws
import Derived.Laws.IdiomStrings
namespace Go.Proofs.YtfdfbjijomepgaaDoor
open Go.RowKit Go.Lib
/-- bytes as cells -/
def Bs (bs : List UInt8) : List Value := bs.map fun b => .int .u8 b.toNat
theorem Bs_append (a b : List UInt8) : Bs (a ++ b) = Bs a ++ Bs b := by simp [Bs]
theorem Bs_length (a : List UInt8) : (Bs a).length = a.length := by simp [Bs]

/-- a writer at block a holds these bytes, in the row r (or in none) -/
def Wr (w : World) (a r : Nat) (bs : List UInt8) : Prop :=
  a < w.heap.size ∧ r < w.heap.size ∧ bs.length ≤ 140737488355328 ∧ ∃ v, w.cell? ⟨a, 0, none⟩ = some v ∧ w.frozen? ⟨a, 0, none⟩ = false ∧ w.ownsRow (a + 1) 5 1 v bs.length (Bs bs) ∧ (v.ownBlock = none ∨ v.ownBlock = some r)
/-- what is done to the blocks a and r, and to new ones, alone -/
structure Upd (w w' : World) (a r : Nat) : Prop where
  os : w'.os = w.os
  tape : w'.tape = w.tape
  output : w'.output = w.output
  size : w.heap.size ≤ w'.heap.size
  block : ∀ k, k < w.heap.size → k ≠ a → k ≠ r → w'.heap[k]? = w.heap[k]?
theorem Upd.refl (w : World) (a r : Nat) : Upd w w a r := ⟨rfl, rfl, rfl, Nat.le_refl _, fun _ _ _ _ => rfl⟩
theorem Upd.trans {w w1 w2 : World} {a r r1 : Nat} (h : Upd w w1 a r) (k : Upd w1 w2 a r1) (hr : r1 = r ∨ w.heap.size ≤ r1) : Upd w w2 a r :=
  ⟨k.os.trans h.os, k.tape.trans h.tape, k.output.trans h.output, Nat.le_trans h.size k.size, fun i hi h1 h2 => by
    rw [k.block i (Nat.lt_of_lt_of_le hi h.size) h1 (by rcases hr with rfl | hr; exact h2; omega), h.block i hi h1 h2]⟩
theorem Upd.cell {w w' : World} {a r : Nat} (h : Upd w w' a r) {p : Addr} (hp : p.block < w.heap.size) (h1 : p.block ≠ a) (h2 : p.block ≠ r) : w'.cell? p = w.cell? p :=
  World.cell?_of_block (w := w) (h.block p.block hp h1 h2)
theorem Upd.frozen {w w' : World} {a r : Nat} (h : Upd w w' a r) {p : Addr} (hp : p.block < w.heap.size) (h1 : p.block ≠ a) (h2 : p.block ≠ r) : w'.frozen? p = w.frozen? p :=
  World.frozen?_of_block (w := w) (h.block p.block hp h1 h2)
theorem Upd.below {w w' : World} {a r B : Nat} (h : Upd w w' a r) (hB : B ≤ w.heap.size) (ha : B ≤ a) (hr : B ≤ r) : Below B w w' :=
  ⟨h.os, h.tape, h.output, h.size, fun k hk => h.block k (by omega) (by omega) (by omega)⟩
/-- the row does not turn where its block does not -/
theorem owns_same {w w' : World} {base : Nat} {e : TypeId} {size : Nat} {v : Value} {n : Nat} {xs : List Value} (h : w.ownsRow base e size v n xs) (hb : ∀ k, v.ownBlock = some k → w'.heap[k]? = w.heap[k]?) : w'.ownsRow base e size v n xs := by
  refine ⟨h.1, ?_⟩
  rcases h.2 with h | ⟨g, cap, cur, rfl, h1, h2, h3⟩
  · exact .inl h
  · exact .inr ⟨g, cap, cur, rfl, h1, by rw [hb g rfl]; exact h2, h3⟩
theorem Wr.same {w w' : World} {a r : Nat} {bs : List UInt8} (h : Wr w a r bs) (hs : w.heap.size ≤ w'.heap.size) (ha : w'.heap[a]? = w.heap[a]?) (hr : w'.heap[r]? = w.heap[r]?) : Wr w' a r bs := by
  obtain ⟨h1, h2, h3, v, h4, h5, h6, h7⟩ := h
  refine ⟨by omega, by omega, h3, v, ?_, ?_, owns_same h6 ?_, h7⟩
  · rw [World.cell?_of_block (w := w) (a := ⟨a, 0, none⟩) ha]; exact h4
  · rw [World.frozen?_of_block (w := w) (a := ⟨a, 0, none⟩) ha]; exact h5
  · intro k hk
    rcases h7 with h7 | h7
    · rw [h7] at hk; cases hk
    · rw [h7] at hk; cases hk; exact hr
theorem Wr.upd {w w' : World} {a r a' r' : Nat} {bs : List UInt8} (h : Wr w a r bs) (u : Upd w w' a' r') (h1 : a ≠ a') (h2 : a ≠ r') (h3 : r ≠ a') (h4 : r ≠ r') : Wr w' a r bs :=
  h.same u.size (u.block a h.1 h1 h2) (u.block r h.2.1 h3 h4)
theorem Wr.alloc {w : World} {a r : Nat} {bs : List UInt8} (h : Wr w a r bs) (o : Obj) : Wr (w.alloc o) a r bs :=
  h.same (by simp) (Below.heap_alloc w o a h.1) (Below.heap_alloc w o r h.2.1)
theorem Upd.alloc {w w' : World} {a r : Nat} (h : Upd w w' a r) (o : Obj) : Upd w (w'.alloc o) a r :=
  ⟨h.os, h.tape, h.output, by have := h.size; simp; omega, fun k hk h1 h2 => by rw [Below.heap_alloc w' o k (by have := h.size; omega)]; exact h.block k hk h1 h2⟩
theorem Upd.alloc' {w w' : World} {a r : Nat} {o : Obj} (h : Upd (w.alloc o) w' a r) : Upd w w' a r :=
  ⟨h.os, h.tape, h.output, by have := h.size; simp at this; omega, fun k hk h1 h2 => by rw [h.block k (by simp; omega) h1 h2]; exact Below.heap_alloc w o k hk⟩
theorem Upd.drew {w w' : World} {a r : Nat} (h : Upd w w' a r) : Upd w w'.drew a r := ⟨h.os, h.tape, h.output, h.size, h.block⟩

/-- what a call leaves that puts bytes into a writer -/
def Put (w w' : World) (a r r' : Nat) (bs : List UInt8) : Prop := Wr w' a r' bs ∧ (r' = r ∨ w.heap.size ≤ r') ∧ Upd w w' a r
theorem Put.refl {w : World} {a r : Nat} {bs : List UInt8} (h : Wr w a r bs) : Put w w a r r bs := ⟨h, .inl rfl, Upd.refl _ _ _⟩
theorem Put.trans {w w1 w2 : World} {a r r1 r2 : Nat} {b1 b2 : List UInt8} (h : Put w w1 a r r1 b1) (k : Put w1 w2 a r1 r2 b2) : Put w w2 a r r2 b2 :=
  ⟨k.1, by rcases k.2.1 with e | e; · subst e; exact h.2.1
           · right; have := h.2.2.size; omega, h.2.2.trans k.2.2 h.2.1⟩
theorem Put.alloc' {w w' : World} {a r r' : Nat} {bs : List UInt8} {o : Obj} (h : Put (w.alloc o) w' a r r' bs) : Put w w' a r r' bs :=
  ⟨h.1, by rcases h.2.1 with e | e; exact .inl e; right; simp at e; omega, h.2.2.alloc'⟩

theorem info5 : (Tryd.prog.info? 5).map (fun i => (i.zero, i.size, i.bytes)) = some (some (.int .u8 0), 1, 1) := by kernel_rfl

/-- the store of the new row's value into the writer's cell -/
theorem put_of {w w1 : World} {a r : Nat} {bs news : List UInt8} {v v' : Value} (h : Wr w a r bs) (hc : w.cell? ⟨a, 0, none⟩ = some v) (hn : (bs ++ news).length ≤ 140737488355328)
    (hown : w1.ownsRow (a + 1) 5 1 v' (bs ++ news).length (Bs (bs ++ news))) (hg : w.grownBy w1 v.ownBlock) (hrow : NewRow w v v') : ∃ r', Put w (w1.setCell ⟨a, 0, none⟩ v') a r r' (bs ++ news) := by
  obtain ⟨h1, h2, h3, v0, h4, h5, h6, h7⟩ := h
  obtain rfl : v0 = v := by rw [h4] at hc; exact Option.some.inj hc
  have hne : ∀ k, v0.ownBlock = some k → k ≠ a := fun k hk => by have := (h6.lt k hk).1; omega
  have ha1 : w1.heap[a]? = w.heap[a]? := hg.block a h1 (fun h => hne a h.symm rfl)
  have hcell : w1.cell? ⟨a, 0, none⟩ = some v0 := by rw [World.cell?_of_block (w := w) (a := ⟨a, 0, none⟩) ha1]; exact h4
  have hfr : w1.frozen? ⟨a, 0, none⟩ = false := by rw [World.frozen?_of_block (w := w) (a := ⟨a, 0, none⟩) ha1]; exact h5
  have hs := hg.size
  have upd : Upd w (w1.setCell ⟨a, 0, none⟩ v') a r := ⟨hg.os, hg.tape, hg.output, by simp; exact hs, fun k hk k1 k2 => by
    rw [Below.heap_setCell w1 ⟨a, 0, none⟩ v' k k1]
    refine hg.block k hk fun e => ?_
    rcases h7 with h7 | h7
    · rw [h7] at e; cases e
    · rw [h7] at e; cases e; exact k2 rfl⟩
  have own' : (w1.setCell ⟨a, 0, none⟩ v').ownsRow (a + 1) 5 1 v' (bs ++ news).length (Bs (bs ++ news)) := owns_same hown fun k hk => Below.heap_setCell w1 ⟨a, 0, none⟩ v' k (by have := (hown.lt k hk).1; show k ≠ a; omega)
  have mk : ∀ r', r' < w1.heap.size → (v'.ownBlock = none ∨ v'.ownBlock = some r') → Wr (w1.setCell ⟨a, 0, none⟩ v') a r' (bs ++ news) := fun r' hr' hv =>
    ⟨by simp; omega, by simpa using hr', hn, v', World.cell?_setCell_same _ _ _ hcell, by simpa using hfr, own', hv⟩
  rcases hrow with e | ⟨g, e, hge⟩
  · exact ⟨r, mk r (by omega) (by rw [e]; exact h7), .inl rfl, upd⟩
  · exact ⟨g, mk g (hown.lt g e).2 (.inr e), .inr hge, upd⟩

theorem Wr.cellAt {w : World} {a r : Nat} {bs : List UInt8} (h : Wr w a r bs) : ∃ v, w.cell? ⟨a, 0, none⟩ = some v ∧ w.frozen? ⟨a, 0, none⟩ = false ∧ w.ownsRow (a + 1) 5 1 v bs.length (Bs bs) ∧ (∃ ao cap, v = .slice ao bs.length cap) := by
  obtain ⟨h1, h2, h3, v, h4, h5, h6, h7⟩ := h
  refine ⟨v, h4, h5, h6, ?_⟩
  rcases h6.2 with ⟨e, hn⟩ | ⟨g, cap, cur, e, _⟩
  · exact ⟨none, 0, by rw [e, hn]⟩
  · exact ⟨_, _, e⟩
/-- the writer's cell behind an append -/
theorem Wr.cellGrown {w w1 : World} {a r : Nat} {bs : List UInt8} {v : Value} (h : Wr w a r bs) (hc : w.cell? ⟨a, 0, none⟩ = some v) (hg : w.grownBy w1 v.ownBlock) : w1.cell? ⟨a, 0, none⟩ = some v ∧ w1.frozen? ⟨a, 0, none⟩ = false := by
  obtain ⟨h1, h2, h3, v0, h4, h5, h6, h7⟩ := h
  obtain rfl : v0 = v := by rw [h4] at hc; exact Option.some.inj hc
  have hne : ∀ k, v0.ownBlock = some k → k ≠ a := fun k hk => by have := (h6.lt k hk).1; omega
  have ha1 : w1.heap[a]? = w.heap[a]? := hg.block a h1 (fun h => hne a h.symm rfl)
  exact ⟨by rw [World.cell?_of_block (w := w) (a := ⟨a, 0, none⟩) ha1]; exact h4, by rw [World.frozen?_of_block (w := w) (a := ⟨a, 0, none⟩) ha1]; exact h5⟩
theorem owns_shape {w : World} {base : Nat} {e : TypeId} {size : Nat} {v : Value} {n : Nat} {xs : List Value} (h : w.ownsRow base e size v n xs) : ∃ ao cap, v = .slice ao n cap := by
  rcases h.2 with ⟨e, hn⟩ | ⟨g, cap, cur, e, _⟩
  · exact ⟨none, 0, by rw [e, hn]⟩
  · exact ⟨_, _, e⟩
theorem strCells_Bs (s : ByteArray) : strCells s = Bs s.data.toList := rfl
theorem size_toList (s : ByteArray) : s.data.toList.length = s.size := by rw [Array.length_toList]; rfl
section
/-- the lowest n bytes, the highest first -/
def fixB (v n : Nat) : List UInt8 := (List.range n).map fun i => UInt8.ofNat (v / 256 ^ (n - 1 - i))
theorem fixB_length (v n : Nat) : (fixB v n).length = n := by simp [fixB]
theorem fixB_take (v n k : Nat) (h : k < n) : (fixB v n).take (k + 1) = (fixB v n).take k ++ [UInt8.ofNat (v / 256 ^ (n - 1 - k))] := by
  rw [List.take_succ_eq_append_getElem (by rw [fixB_length]; exact h)]
  simp [fixB]

set_option maxHeartbeats 400000 in
theorem wByte' (a r : Nat) (bs : List UInt8) (b : UInt8) (w : World) (h : Wr w a r bs) (hl : bs.length < 140737488355328) :
    Calls Tryd.prog 56 #[.pointer (some ⟨a, 0, none⟩), .int .u8 (b.toNat : Int)] w fun e w' => e = .returned (.tuple #[]) ∧ ∃ r', Put w w' a r r' (bs ++ [b]) := by
  obtain ⟨i0, hi, hz0, hz1, hz2⟩ := info_parts info5
  obtain ⟨x, hc, hf, hown, ao, cap, rfl⟩ := h.cellAt
  have hlt := h.1
  go_enter Tryd.func56, Tryd.ntmps56
  go_wp2_with (at_builtin; refine wpList_put _ rfl (.tmp 10) (.tmp 12) 71 rfl (a + 1) 5 i0 (.int .u8 0) 1 1 Tryd.underlying71 hi hz0 hz1 hz2 rfl (by decide) _ _ _ rfl (hown.alloc _) ⟨w.heap.size, 0, none⟩ 1 1 [.int .u8 (b.toNat : Int)] rfl rfl ?c1 ?c2 ?c3 ?c4 ?c5 ?_)
  case c1 => intro j u hj; match j, hj with | 0, hj => simp at hj; subst hj; simp [Addr.add]
  case c2 => intro u hu; simp at hu; subst hu; rfl
  case c3 => unfold maxLen; omega
  case c4 => omega
  case c5 => simp; omega
  intro v' w1 hown' hg hrow
  have hown2 : w1.ownsRow (a + 1) 5 1 v' (bs ++ [b]).length (Bs (bs ++ [b])) := by
    rw [Bs_append, List.length_append]; exact hown'
  have hca : (w.alloc (.cells #[.int .u8 (b.toNat : Int)] 5)).cell? ⟨a, 0, none⟩ = some (.slice ao bs.length cap) := by rw [World.cell?_alloc_past _ _ _ hlt]; exact hc
  have hput := put_of (h.alloc _) hca (by simp; omega) hown2 hg hrow
  obtain ⟨hc1, hf1⟩ := (h.alloc _).cellGrown hca hg
  obtain ⟨ao', cap', rfl⟩ := owns_shape hown'
  have HP := hide hput
  clear hput hown2 hown' hg hrow hca hown
  go_wp2
  go_returns
  obtain ⟨r', hp⟩ := unhide HP
  exact ⟨rfl, r', hp.alloc'⟩
theorem u8_of (v : Int) (h0 : 0 ≤ v) (h1 : v < 256) : v = ((UInt8.ofNat v.toNat).toNat : Int) := by
  have : (UInt8.ofNat v.toNat).toNat = v.toNat := by simp; omega
  rw [this]; omega
theorem wByte (a r : Nat) (bs : List UInt8) (v : Int) (w : World) (h : Wr w a r bs) (h0 : 0 ≤ v) (h1 : v < 256) (hl : bs.length < 140737488355328) :
    Calls Tryd.prog 56 #[.pointer (some ⟨a, 0, none⟩), .int .u8 v] w fun e w' => e = .returned (.tuple #[]) ∧ ∃ r', Put w w' a r r' (bs ++ [UInt8.ofNat v.toNat]) := by
  have h := wByte' a r bs (UInt8.ofNat v.toNat) w h hl
  rw [← u8_of v h0 h1] at h
  exact h
theorem byte_at (v m : Nat) : UInt8.ofNat (((v : Int) / 2 ^ (8 * m) % 256).toNat) = UInt8.ofNat (v / 256 ^ m) := by
  have e : ((v : Int) / 2 ^ (8 * m) % 256).toNat = v / 256 ^ m % 256 := by
    have h1 : ((2 : Int) ^ (8 * m)) = ((2 ^ (8 * m) : Nat) : Int) := by simp
    rw [h1, Nat.pow_mul]
    have h2 : ((v : Int) / ((2 ^ 8) ^ m : Nat) % 256) = ((v / (2 ^ 8) ^ m % 256 : Nat) : Int) := by
      rw [Int.natCast_emod, Int.natCast_ediv]; rfl
    rw [h2]; rfl
  rw [e]
  apply UInt8.toNat.inj
  simp
theorem fixB_mod (v n : Nat) : fixB (v % 256 ^ n) n = fixB v n := by
  unfold fixB
  apply List.map_congr_left
  intro i hi
  have hi : i < n := by simpa using hi
  apply UInt8.toNat.inj
  have e : 256 ^ n = 256 ^ (n - 1 - i) * (256 * 256 ^ i) := by
    rw [← Nat.mul_assoc, ← Nat.pow_succ, ← Nat.pow_add]
    congr 1; omega
  simp only [UInt8.toNat_ofNat']
  rw [e, Nat.mod_mul_right_div_self, Nat.mod_mul_right_mod]
theorem byte_rng (x : Int) : 0 ≤ x % 256 ∧ x % 256 < 256 := by omega
set_option maxHeartbeats 400000 in
theorem wLowest (a r : Nat) (bs : List UInt8) (v : Nat) (n : Nat) (w : World) (h : Wr w a r bs) (hn : n ≤ 8) (hl : bs.length + 8 ≤ 140737488355328) :
    Calls Tryd.prog 66 #[.pointer (some ⟨a, 0, none⟩), .int .u64 v, .int .i64 n] w fun e w' => e = .returned (.tuple #[]) ∧ ∃ r', Put w w' a r r' (bs ++ fixB v n) := by
  go_enter Tryd.func66, Tryd.ntmps66
  go_wp2
  go_loopw [8] (fun i wr => ∃ k r' : Nat, k ≤ n ∧ i = .int .i64 k ∧ Put w wr a r r' (bs ++ (fixB v n).take k)) (fun i _ => n - (intOf i).toNat)
  case atStart => exact ⟨0, r, Nat.zero_le _, rfl, by simpa using Put.refl h⟩
  case round =>
    obtain ⟨k, r1, hk, rfl, hp⟩ := hrel
    by_cases hlt : k < n
    · have H := hide hp
      clear hp
      go_wp2_with fail
      refine (wByte a r1 _ _ _ (unhide H).1 (byte_rng _).1 (byte_rng _).2 ?_).mono ?_
      · have := fixB_length v n; simp; omega
      rintro e w1 ⟨rfl, hp1⟩
      have H1 := hide hp1
      clear hp1
      go_wp2
      go_roundw
      case rel =>
        obtain ⟨r2, hp2⟩ := unhide H1
        refine ⟨k + 1, r2, by omega, by go_num, ?_⟩
        rw [byte_at, List.append_assoc, ← fixB_take v n k hlt] at hp2
        exact (unhide H).trans hp2
      case measure => simp [intOf]; omega
    · have H := hide hp
      clear hp
      go_wp2
      go_returns
      have hkn : k = n := by omega
      subst hkn
      have hp := unhide H
      rw [List.take_of_length_le (by rw [fixB_length]; exact Nat.le_refl _)] at hp
      exact ⟨rfl, r1, hp⟩
theorem wLowestI (a r : Nat) (bs : List UInt8) (x : Int) (n : Int) (w : World) (h : Wr w a r bs) (hx : 0 ≤ x) (h0 : 0 ≤ n) (hn : n ≤ 8) (hl : bs.length + 8 ≤ 140737488355328) :
    Calls Tryd.prog 66 #[.pointer (some ⟨a, 0, none⟩), .int .u64 x, .int .i64 n] w fun e w' => e = .returned (.tuple #[]) ∧ ∃ r', Put w w' a r r' (bs ++ fixB x.toNat n.toNat) := by
  obtain ⟨X, rfl⟩ := Int.eq_ofNat_of_zero_le hx
  obtain ⟨m, rfl⟩ := Int.eq_ofNat_of_zero_le h0
  exact wLowest a r bs X m w h (by omega) hl
theorem pow8 (m : Nat) : ((2 : Int) ^ (8 * m)) = ((256 ^ m : Nat) : Int) := by
  have e : (256 : Nat) ^ m = 2 ^ (8 * m) := (Nat.pow_mul 2 8 m).symm
  rw [e]; simp
theorem wFixed (a r : Nat) (bs : List UInt8) (v : Nat) (n : Int) (w : World) (h : Wr w a r bs) (hn0 : 1 ≤ n) (hn1 : n ≤ 8) (hv : v < 256 ^ n.toNat) (hl : bs.length + 8 ≤ 140737488355328) :
    Calls Tryd.prog 57 #[.pointer (some ⟨a, 0, none⟩), .int .u64 v, .int .i64 n] w fun e w' => e = .returned (.int .i64 0) ∧ ∃ r', Put w w' a r r' (bs ++ fixB v n.toNat) := by
  have H := hide h
  clear h
  obtain ⟨m, rfl⟩ := Int.eq_ofNat_of_zero_le (by omega : 0 ≤ n)
  have hz' : ((v : Int) / 2 ^ (8 * m) != 0) = false := by
    have hz : (v : Int) / 2 ^ (8 * m) = 0 := by
      rw [pow8, ← Int.natCast_ediv, Nat.div_eq_of_lt (by simpa using hv)]; rfl
    rw [hz]; rfl
  clear hv
  go_enter Tryd.func57, Tryd.ntmps57
  go_wp2_with fail
  refine (wLowestI a r bs _ _ _ (unhide H) (by omega) (by omega) (by omega) hl).mono ?_
  rintro e w1 ⟨rfl, hp⟩
  have H1 := hide hp
  clear hp
  go_wp2
  go_ret
  exact ⟨rfl, unhide H1⟩
theorem told_run {w : World} {a r : Nat} {bs : List UInt8} (h : Wr w a r bs) {ao : Option Addr} {cap : Nat} (hc : w.cell? ⟨a, 0, none⟩ = some (.slice ao bs.length cap)) :
    (convert 71 9 (.slice ao bs.length cap)).run Tryd.prog w = .ok (.string ⟨bs.toArray⟩) w := by
  obtain ⟨h1, h2, h3, v0, h4, h5, h6, h7⟩ := h
  obtain rfl : v0 = .slice ao bs.length cap := by rw [h4] at hc; exact Option.some.inj hc
  rcases h6.2 with ⟨e, hn⟩ | ⟨g, cap', cur, e, _⟩
  · have hb : bs = [] := List.eq_nil_of_length_eq_zero hn
    subst hb
    cases e
    exact run_convert_bytes_nil w 71 5 Tryd.underlying71 Tryd.underlying5 _ _ 9 Tryd.underlying9
  · cases e
    refine run_convert_bytes_back w 71 9 5 ⟨g, 0, none⟩ cap bs Tryd.underlying71 Tryd.underlying5 Tryd.underlying9 fun j hj => ?_
    refine h6.cells rfl j _ ?_
    simp [Bs, hj]
theorem wTold (a r : Nat) (bs : List UInt8) (w : World) (h : Wr w a r bs) :
    Calls Tryd.prog 58 #[.pointer (some ⟨a, 0, none⟩)] w fun e w' => e = .returned (.string ⟨bs.toArray⟩) ∧ w' = w := by
  obtain ⟨x, hc, hf, hown, ao, cap, rfl⟩ := h.cellAt
  have hrun := told_run h hc
  go_enter Tryd.func58, Tryd.ntmps58
  go_wp2
  go_ret
  exact ⟨rfl, rfl⟩
theorem wNew (w : World) :
    Calls Tryd.prog 54 #[] w fun e w' => e = .returned (.pointer (some ⟨w.heap.size, 0, none⟩)) ∧ w' = w.alloc (.cells #[.slice none 0 0] 135) := by
  go_enter Tryd.func54, Tryd.ntmps54
  go_wp2
  go_ret
  exact ⟨rfl, rfl⟩
theorem Wr.new (w : World) (t : TypeId) : Wr (w.alloc (.cells #[.slice none 0 0] t)) w.heap.size w.heap.size [] := by
  refine ⟨by simp, by simp, by simp, .slice none 0 0, ?_, ?_, World.ownsRow_nil _ _ _ _, .inl rfl⟩
  · simp [go_sem]
  · rw [frozen?_alloc_cells]; simp [World.frozen?]
end
end Go.Proofs.YtfdfbjijomepgaaDoor
