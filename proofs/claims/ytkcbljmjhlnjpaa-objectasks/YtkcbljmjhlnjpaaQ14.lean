/- Put together out of Yw, Yo, Yu. -/
import Derived.Test.YtkcbljmjhlnjpaaQ03
import Derived.Test.YtkcbljmjhlnjpaaQ13
import Derived.WalkKit
import Derived.WalkLawsBesides
import Derived.ProofKit
import Derived.OpenShut
import Derived.Handy
import Derived.ArgAppend
import Derived.Lib.AppendStr
import Derived.Laws.BitsAllLaws
import Derived.Laws.IdiomStrings
import Derived.Laws.DeepStrings4
import Derived.Deep.QuietTactic
import Derived.BigQuiet
import Derived.WalkSmall
import Derived.Lib.IndexBytes
import Derived.Laws.DeepNot64
namespace Go.Proofs.Ytkcbljmjhlnjpaa.W
open Go.RowKit Go.Lib
section
variable {P : Program} (w : World)
theorem run_append_own_string' (base : Nat) (t u ty e : TypeId) (i : TypeInfo) (ht : P.underlying t = some (.slice e)) (hu : P.underlying u = some .string) (hi : P.info? e = some i) (hz : i.zero = some (.int .u8 0))
    (hsize : i.size = 1) (hby : i.bytes = 1)
    (v : Value) (n : Nat) (xs : List Value) (hown : w.ownsRow base e 1 v n xs) (s : ByteArray)
    (h63 : n + s.size ≤ maxLen) (hbytes : n + s.size ≤ 140737488355328) (hbase : base ≤ w.heap.size) :
    ∃ v' w', (Builtin.append_ #[t, u] ty #[v, .string s]).run P w = .ok v' w' ∧ w'.ownsRow base e 1 v' (n + s.size) (xs ++ strCells s) ∧ w.grownBy w' v.ownBlock ∧ NewRow w v v' := by
  obtain ⟨v', w', hr, h2, h3, h4⟩ := run_append_own_string (P := P) w base t u ty e i ht hu hi hz hsize hby v n xs hown s h63 hbytes hbase
  refine ⟨v', w', hr, h2, h3, ?_⟩
  have fresh : ∀ {w2 : World}, w2.ownsRow w.heap.size e 1 v' (n + s.size) (xs ++ strCells s) → NewRow w v v' ∨ v' = .slice none 0 0 := by
    intro w2 h
    rcases h.2 with ⟨h, _⟩ | ⟨g, cap, cur, h, hb, _⟩
    · exact .inr h
    · exact .inl (.inr ⟨g, by rw [h]; rfl, hb⟩)
  have bare : v' = .slice none 0 0 → NewRow w v v' := fun h => .inl (by rw [h, (h4.1 h).1])
  rcases hown.2 with ⟨hv, hn⟩ | ⟨g, cap, cur, hv, hb, hg, hnc, hcm, hcs, htake⟩
  · subst hn
    have ho' : w.ownsRow w.heap.size e 1 v 0 xs := ⟨hown.1, .inl ⟨hv, rfl⟩⟩
    obtain ⟨v2, w2, hr', k2, _, _⟩ := run_append_own_string (P := P) w w.heap.size t u ty e i ht hu hi hz hsize hby v 0 xs ho' s h63 hbytes (Nat.le_refl _)
    rw [hr] at hr'
    cases hr'
    exact (fresh k2).elim id bare
  · by_cases hroom : n + s.size ≤ cap
    · have hr' := run_append_room_string (P := P) w t u ty e i ht hu hi hsize g n cap cur hg s hroom (by rw [hcs]; omega)
      rw [← hv, hr] at hr'
      cases hr'
      exact .inl (by rw [hv]; rfl)
    · have hcap : Builtin.nextslicecap (n + s.size) cap * i.bytes ≤ 281474976710656 := by
        rw [hby]
        have := nextslicecap_le (need := n + s.size) (old := cap) (by omega)
        omega
      have hr' := run_append_grow_string (P := P) w t u ty e i (.int .u8 0) ht hu hi hz ⟨g, 0, none⟩ n cap xs (by rw [hsize]; exact hown.1) (hown.cells (by rw [hv]; rfl)) s (by omega) (by simp only [maxLen] at h63; omega) hcap
      rw [← hv, hr] at hr'
      cases hr'
      exact .inr ⟨w.heap.size, rfl, Nat.le_refl _⟩

theorem wpList_put_string {ops : Array Oper} {rest : List Oper} {o : Oper} {a : Act} {Q : Exit → Act → World → Prop} (hgd : o.guard = none) (sl x : Operand) (t u : TypeId)
    (ho : o.op = .call { callee := .builtin .append, args := #[sl, x], argTypes := #[t, u] })
    (base : Nat) (e : TypeId) (i : TypeInfo) (ht : P.underlying t = some (.slice e)) (hu : P.underlying u = some .string) (hi : P.info? e = some i) (hz : i.zero = some (.int .u8 0))
    (hsize : i.size = 1) (hby : i.bytes = 1)
    (v : Value) (n : Nat) (xs : List Value) (hs : a.eval sl = v) (hown : w.ownsRow base e 1 v n xs) (s : ByteArray) (hx : a.eval x = .string s)
    (h63 : n + s.size ≤ maxLen) (hbytes : n + s.size ≤ 140737488355328) (hbase : base ≤ w.heap.size)
    (h : ∀ v' w', w'.ownsRow base e 1 v' (n + s.size) (xs ++ strCells s) → w.grownBy w' v.ownBlock → NewRow w v v' → wpList P ops Q rest (a.put o.dst v') w') : wpList P ops Q (o :: rest) a w := by
  refine wpList_plain hgd fun K hK => ?_
  obtain ⟨v', w', hr, h2, h3, h4⟩ := run_append_own_string' (P := P) w base t u o.type e i ht hu hi hz hsize hby v n xs hown s h63 hbytes hbase
  unfold Oper.wp execOp
  simp only [ho, resolve, invoke, builtin, Sem.run_bind, Sem.run_pure, Result.andThen_ok, List.map_toArray, List.map_cons, List.map_nil, hs, hx, hr]
  exact hK _ _ (h v' w' h2 h3 h4)
end
set_option maxHeartbeats 400000 in
theorem wRaw (a r : Nat) (bs : List UInt8) (s : ByteArray) (w : World) (h : Wr w a r bs) (hl : bs.length + s.size ≤ 140737488355328) :
    Calls Try.prog 60 #[.pointer (some ⟨a, 0, none⟩), .string s] w fun e w' => e = .returned (.tuple #[]) ∧ ∃ r', Put w w' a r r' (bs ++ s.data.toList) := by
  obtain ⟨i0, hi, hz0, hz1, hz2⟩ := info_parts info5
  obtain ⟨x, hc, hf, hown, ao, cap, rfl⟩ := h.cellAt
  have hlt := h.1
  go_enter Try.func60, Try.ntmps60
  go_wp2_with (at_builtin; refine wpList_put_string _ rfl (.tmp 10) (.tmp 11) 25 9 rfl (a + 1) 5 i0 Try.underlying25 Try.underlying9 hi hz0 hz1 hz2 _ _ _ rfl hown s rfl ?c3 ?c4 ?c5 ?_)
  case c3 => unfold maxLen; omega
  case c4 => omega
  case c5 => omega
  intro v' w1 hown' hg hrow
  have hown2 : w1.ownsRow (a + 1) 5 1 v' (bs ++ s.data.toList).length (Bs (bs ++ s.data.toList)) := by
    rw [Bs_append, List.length_append, size_toList]; exact hown'
  have hput := put_of h hc (by rw [List.length_append, size_toList]; exact hl) hown2 hg hrow
  obtain ⟨hc1, hf1⟩ := h.cellGrown hc hg
  obtain ⟨ao', cap', rfl⟩ := owns_shape hown'
  have HP := hide hput
  clear hput hown2 hown' hg hrow hc hf hown
  go_wp2
  go_returns
  exact ⟨rfl, unhide HP⟩

theorem uintB_length (f v : Nat) : 1 ≤ (uintB f v).length ∧ (uintB f v).length ≤ f + 1 := by
  induction f generalizing v with
  | zero => simp [uintB]
  | succ f ih =>
    rw [uintB]
    split
    · simp
    · have := ih (v / 128); simp; omega
theorem wUintI (a r : Nat) (bs : List UInt8) (x : Int) (w : World) (h : Wr w a r bs) (h0 : 0 ≤ x) (h1 : x < 18446744073709551616) (hl : bs.length + 10 ≤ 140737488355328) :
    Calls Try.prog 128 #[.pointer (some ⟨a, 0, none⟩), .int .u64 x] w fun e w' => e = .returned (.tuple #[]) ∧ ∃ r', Put w w' a r r' (bs ++ uintB 9 x.toNat) := by
  obtain ⟨X, rfl⟩ := Int.eq_ofNat_of_zero_le h0
  exact wUint a r bs X w h (by omega) hl
theorem wText (a r : Nat) (bs : List UInt8) (s : ByteArray) (w : World) (h : Wr w a r bs) (hl : bs.length + s.size + 10 ≤ 140737488355328) :
    Calls Try.prog 102 #[.pointer (some ⟨a, 0, none⟩), .string s] w fun e w' => e = .returned (.tuple #[]) ∧ ∃ r', Put w w' a r r' (bs ++ (uintB 9 s.size ++ s.data.toList)) := by
  have H := hide h
  clear h
  go_enter Try.func102, Try.ntmps102
  go_wp2_with fail
  refine (wUintI a r bs _ _ (unhide H) (by omega) (by omega) (by omega)).mono ?_
  rintro e w1 ⟨rfl, hp⟩
  obtain ⟨r1, hp⟩ := hp
  have H1 := hide hp
  clear hp
  go_wp2_with fail
  refine (wRaw a r1 _ s _ (unhide H1).1 ?_).mono ?_
  · have := (uintB_length 9 (s.size : Int).toNat).2; rw [List.length_append]; omega
  rintro e w2 ⟨rfl, hp⟩
  have H2 := hide hp
  clear hp
  go_wp2
  go_returns
  obtain ⟨r2, hp⟩ := unhide H2
  rw [List.append_assoc] at hp
  exact ⟨rfl, r2, (unhide H1).trans hp⟩
/-- what Raw takes -/
def rawS (s : ByteArray) (p : Nat) (e n : Int) : ByteArray × Nat × Int :=
  if e ≠ 0 then (⟨#[]⟩, p, e) else if n < 0 then (⟨#[]⟩, p, 1) else if (s.size : Int) - p < n then (⟨#[]⟩, p, 10) else (s.extract p (p + n.toNat), p + n.toNat, 0)
theorem rRaw (a : Nat) (s : ByteArray) (p : Nat) (e n : Int) (w : World) (h : Rd w a s p e) :
    Calls Try.prog 161 #[.pointer (some ⟨a, 0, none⟩), .int .i64 n] w fun y w' => y = .returned (.string (rawS s p e n).1) ∧ Rt w w' a s (rawS s p e n).2.1 (rawS s p e n).2.2 := by
  have H := hide h
  have hle := h.le
  have hmx := h.max
  by_cases he : e = 0
  · subst he
    by_cases hn : n < 0
    · have hr : rawS s p 0 n = (⟨#[]⟩, p, 1) := by unfold rawS; rw [if_neg (by simp), if_pos hn]
      rw [hr]
      clear hr h
      go_enter Try.func161, Try.ntmps161
      go_wp2_with fail
      refine (rStop0 a s p _ (unhide H)).mono ?_
      rintro x w1 ⟨rfl, rfl⟩
      go_wp2_with fail
      refine (rFail0 a s p 1 _ (unhide H)).mono ?_
      rintro x w1 ⟨rfl, hp⟩
      have HP := hide hp
      clear hp
      go_wp2
      go_ret
      exact ⟨rfl, unhide HP⟩
    · by_cases hl : (s.size : Int) - p < n
      · have hr : rawS s p 0 n = (⟨#[]⟩, p, 10) := by unfold rawS; rw [if_neg (by simp), if_neg hn, if_pos hl]
        rw [hr]
        clear hr h
        go_enter Try.func161, Try.ntmps161
        go_wp2_with fail
        refine (rStop0 a s p _ (unhide H)).mono ?_
        rintro x w1 ⟨rfl, rfl⟩
        go_wp2_with fail
        refine (rLeft a s p 0 _ (unhide H)).mono ?_
        rintro x w1 ⟨rfl, k, rfl⟩
        go_wp2_with fail
        refine (rFail0 a s p 10 _ ((unhide H).drewN k)).mono ?_
        rintro x w1 ⟨rfl, hp⟩
        have HP := hide hp
        clear hp
        go_wp2
        go_ret
        exact ⟨rfl, (unhide HP).1, ((Upd.refl _ _ _).drewN k).trans (unhide HP).2 (.inl rfl)⟩
      · obtain ⟨m, rfl⟩ := Int.eq_ofNat_of_zero_le (by omega : 0 ≤ n)
        have hr : rawS s p 0 m = (s.extract p (p + m), p + m, 0) := by unfold rawS; rw [if_neg (by simp), if_neg hn, if_neg hl]; rfl
        rw [hr]
        clear hr
        obtain ⟨h1, h2, h3, c0, c1, c2, f1, f2⟩ := h
        clear c2 f2
        have hpm : (p : Int) + m ≤ s.size := by omega
        go_enter Try.func161, Try.ntmps161
        go_wp2_with fail
        refine (rStop0 a s p _ (unhide H)).mono ?_
        rintro x w1 ⟨rfl, rfl⟩
        go_wp2_with fail
        refine (rLeft a s p 0 _ (unhide H)).mono ?_
        rintro x w1 ⟨rfl, k, rfl⟩
        go_wp2
        go_quiet (fail)
        go_wp2
        go_ret
        have h' := ((unhide H).drewN (k + nq)).setAt (p + m) (by omega)
        rw [Int.natCast_add] at h'
        exact ⟨rfl, h', ((Upd.refl _ _ _).drewN _).setCell _ _⟩
  · have hr : rawS s p e n = (⟨#[]⟩, p, e) := by unfold rawS; rw [if_pos he]
    rw [hr]
    clear hr h
    have HE := hide he
    clear he
    go_enter Try.func161, Try.ntmps161
    go_wp2_with fail
    refine (rStop1 a s p e _ (unhide H) (unhide HE)).mono ?_
    rintro x w1 ⟨rfl, rfl⟩
    go_wp2
    go_ret
    exact ⟨rfl, Rt.refl (unhide H)⟩
/-- the number that bytes are, the highest first -/
def numB (l : List UInt8) : Nat := l.foldl (fun v b => v * 256 + b.toNat) 0
theorem numB_snoc (l : List UInt8) (b : UInt8) : numB (l ++ [b]) = numB l * 256 + b.toNat := by simp [numB]
theorem numB_acc (l : List UInt8) (v : Nat) : l.foldl (fun v b => v * 256 + b.toNat) v < (v + 1) * 256 ^ l.length := by
  induction l generalizing v with
  | nil => simp
  | cons b l ih =>
    rw [List.foldl_cons, List.length_cons, Nat.pow_succ, Nat.mul_comm (256 ^ l.length) 256, ← Nat.mul_assoc]
    refine Nat.lt_of_lt_of_le (ih _) (Nat.mul_le_mul_right _ ?_)
    have := b.toNat_lt
    omega
theorem numB_lt (l : List UInt8) : numB l < 256 ^ l.length := by
  have := numB_acc l 0
  simpa [numB] using this
theorem or_byte (v : Nat) (b : UInt8) (hv : v < 72057594037927936) : bits .or .u64 ((v : Int) * 256) (IntKind.u64.wrap (b.toNat : Int)) = ((v * 256 + b.toNat : Nat) : Int) := by
  have hb := b.toNat_lt
  have e : IntKind.u64.wrap (b.toNat : Int) = ((b.toNat : Nat) : Int) := by rw [IntKind.wrap_u64]; omega
  have e2 : ((v : Int) * 256) = ((v * 256 : Nat) : Int) := by omega
  rw [e, e2, u64_or_nat _ _ (by omega) (by omega)]
  congr 1
  have := Nat.two_pow_add_eq_or_of_lt (i := 8) (b := b.toNat) hb v
  rw [Nat.mul_comm v 256]
  exact this.symm
theorem take_snoc (s : ByteArray) (k : Nat) (h : k < s.size) : s.data.toList.take (k + 1) = s.data.toList.take k ++ [s[k]] := by
  rw [List.take_succ_eq_append_getElem (by simpa using h)]; rfl
/-- the value that Fixed answers -/
def fixS (s : ByteArray) (p : Nat) (e n : Int) : Nat × Nat × Int :=
  if n < 1 ∨ 8 < n then (0, p, failE e 1) else (numB (rawS s p e n).1.data.toList, (rawS s p e n).2.1, (rawS s p e n).2.2)
theorem rawS_size (s : ByteArray) (p : Nat) (e n : Int) : ((rawS s p e n).1.size : Int) ≤ max n 0 := by
  unfold rawS
  split
  · simp [ByteArray.size]; omega
  · split
    · simp [ByteArray.size]; omega
    · split
      · simp [ByteArray.size]; omega
      · simp; omega
set_option maxRecDepth 100000 in
set_option maxHeartbeats 400000 in
theorem rFixed (a : Nat) (s : ByteArray) (p : Nat) (e n : Int) (w : World) (h : Rd w a s p e) :
    Calls Try.prog 159 #[.pointer (some ⟨a, 0, none⟩), .int .i64 n] w fun y w' => y = .returned (.int .u64 (fixS s p e n).1) ∧ Rt w w' a s (fixS s p e n).2.1 (fixS s p e n).2.2 := by
  have H := hide h
  have hle := h.le
  clear h
  by_cases hn1 : n < 1
  · have hr : fixS s p e n = (0, p, failE e 1) := if_pos (.inl hn1)
    rw [hr]
    clear hr
    go_enter Try.func159, Try.ntmps159
    go_wp2_with fail
    refine (rFail a s p e 1 _ (unhide H)).mono ?_
    rintro x w1 ⟨rfl, hp⟩
    have HP := hide hp
    clear hp
    go_wp2
    go_ret
    exact ⟨rfl, unhide HP⟩
  · by_cases hn8 : 8 < n
    · have hr : fixS s p e n = (0, p, failE e 1) := if_pos (.inr hn8)
      rw [hr]
      clear hr
      go_enter Try.func159, Try.ntmps159
      go_wp2_with fail
      refine (rFail a s p e 1 _ (unhide H)).mono ?_
      rintro x w1 ⟨rfl, hp⟩
      have HP := hide hp
      clear hp
      go_wp2
      go_ret
      exact ⟨rfl, unhide HP⟩
    · have hr : fixS s p e n = (numB (rawS s p e n).1.data.toList, (rawS s p e n).2.1, (rawS s p e n).2.2) := if_neg (by omega)
      have hsz := rawS_size s p e n
      rw [hr]
      clear hr
      have hraw := rRaw a s p e n w (unhide H)
      generalize rawS s p e n = q at hraw hsz ⊢
      obtain ⟨t, p', e'⟩ := q
      simp only at hraw hsz ⊢
      have ht : t.size ≤ 8 := by omega
      have HR := hide hraw
      clear hraw hsz
      go_enter Try.func159, Try.ntmps159
      go_wp2_with fail
      refine (unhide HR).mono ?_
      rintro x w1 ⟨rfl, hp⟩
      have HP := hide hp
      clear hp
      go_wp2
      go_loop [6, 21] (fun v i => ∃ k : Nat, k ≤ t.size ∧ i = .int .i64 k ∧ v = .int .u64 (numB (t.data.toList.take k))) (fun _ i => t.size - (RowKit.intOf i).toNat)
      case atStart => exact ⟨0, Nat.zero_le _, rfl, rfl⟩
      case round =>
        obtain ⟨k, hk, rfl, rfl⟩ := hrel
        have hb := numB_lt (t.data.toList.take k)
        by_cases hlt : k < t.size
        · have hts := take_snoc t k hlt
          have hsn := numB_snoc (t.data.toList.take k) t[k]
          have HS : Hid (numB (t.data.toList.take (k + 1)) = numB (t.data.toList.take k) * 256 + t[k].toNat) := by rw [hts]; exact hsn
          have hlk : numB (t.data.toList.take k) < 72057594037927936 := by
            rw [List.length_take, size_toList, Nat.min_eq_left (by omega)] at hb
            have : 256 ^ k ≤ 256 ^ 7 := Nat.pow_le_pow_right (by decide) (by omega)
            omega
          clear hts hsn hb
          generalize hv : numB (t.data.toList.take k) = v at *
          have HV := hide hv
          clear hv
          go_wp2
          go_round
          case rel => exact ⟨k + 1, by omega, by go_num, by rw [or_byte v _ hlk, unhide HS]⟩
          case measure => simp [RowKit.intOf]; omega
        · have hkk : k = t.size := by omega
          have e : numB (t.data.toList.take k) = numB t.data.toList := by rw [List.take_of_length_le (by rw [size_toList]; omega)]
          have E := hide e
          clear e hb hkk
          go_wp2
          go_ret
          rw [unhide E]
          exact ⟨rfl, unhide HP⟩

theorem rByte (a : Nat) (s : ByteArray) (p : Nat) (e : Int) (w : World) (h : Rd w a s p e) :
    Calls Try.prog 151 #[.pointer (some ⟨a, 0, none⟩)] w fun y w' => y = .returned (.int .u8 ((fixS s p e 1).1 % 256 : Nat)) ∧ Rt w w' a s (fixS s p e 1).2.1 (fixS s p e 1).2.2 := by
  have hfix := rFixed a s p e 1 w h
  generalize fixS s p e 1 = q at hfix ⊢
  obtain ⟨t, p', e'⟩ := q
  simp only at hfix ⊢
  have HR := hide hfix
  clear hfix h
  go_enter Try.func151, Try.ntmps151
  go_wp2_with fail
  refine (unhide HR).mono ?_
  rintro x w1 ⟨rfl, hp⟩
  have HP := hide hp
  clear hp
  go_wp2
  go_ret
  refine ⟨?_, unhide HP⟩
  show Ending.returned (.int .u8 ((t : Int) % 256)) = _
  rw [Int.natCast_emod]; rfl
theorem rBack (a : Nat) (s : ByteArray) (p : Nat) (e : Int) (q : Nat) (w : World) (h : Rd w a s p e) (hq : q ≤ s.size) :
    Calls Try.prog 162 #[.pointer (some ⟨a, 0, none⟩), .int .i64 q] w fun y w' => y = .returned (.tuple #[]) ∧ Rt w w' a s q e := by
  have H := hide h
  obtain ⟨h1, h2, h3, c0, c1, c2, f1, f2⟩ := h
  clear c0 c2
  go_enter Try.func162, Try.ntmps162
  go_wp2
  go_returns
  exact ⟨rfl, (unhide H).setAt q hq, (Upd.refl _ _ _).setCell _ _⟩
theorem uintS_le (s : ByteArray) (p : Nat) (e : Int) (most : Nat) : (uintS s p e most).1 ≤ most := by
  unfold uintS
  split
  · simp
  · split
    · simp
    · split
      · simp
      · simp; omega
theorem uintS_pos (s : ByteArray) (p : Nat) (e : Int) (most : Nat) (h : p ≤ s.size) : (uintS s p e most).2.1 ≤ s.size ∧ p ≤ (uintS s p e most).2.1 := by
  have hu := dg_used (s.data.toList.drop p) 0 0
  rw [List.length_drop, size_toList] at hu
  unfold uintS
  split
  · simp [h]
  · split
    · simp [h]
    · split
      · simp [h]
      · simp; omega
/-- what Text takes -/
def textS (s : ByteArray) (p : Nat) (e most : Int) : ByteArray × Nat × Int :=
  if most < 0 then (⟨#[]⟩, p, failE e 1)
  else if (rawS s (uintS s p e most.toNat).2.1 (uintS s p e most.toNat).2.2 (uintS s p e most.toNat).1).2.2 ≠ 0
    then (⟨#[]⟩, p, (rawS s (uintS s p e most.toNat).2.1 (uintS s p e most.toNat).2.2 (uintS s p e most.toNat).1).2.2)
    else rawS s (uintS s p e most.toNat).2.1 (uintS s p e most.toNat).2.2 (uintS s p e most.toNat).1
theorem rawS_bad (s : ByteArray) (p : Nat) (e n : Int) (h : (rawS s p e n).2.2 ≠ 0) : (rawS s p e n).1 = ⟨#[]⟩ := by
  unfold rawS at h ⊢
  split
  · rfl
  · split
    · rfl
    · split
      · rfl
      · rename_i h1 h2 h3
        rw [if_neg h1, if_neg h2, if_neg h3] at h
        exact absurd rfl h
set_option maxHeartbeats 800000 in
theorem rText (a : Nat) (s : ByteArray) (p : Nat) (e most : Int) (w : World) (h : Rd w a s p e) (hmo : most < 9223372036854775808) :
    Calls Try.prog 152 #[.pointer (some ⟨a, 0, none⟩), .int .i64 most] w fun y w' => y = .returned (.string (textS s p e most).1) ∧ Rt w w' a s (textS s p e most).2.1 (textS s p e most).2.2 := by
  have H := hide h
  have hle := h.le
  by_cases hm : most < 0
  · have hr : textS s p e most = (⟨#[]⟩, p, failE e 1) := if_pos hm
    rw [hr]
    clear hr h
    go_enter Try.func152, Try.ntmps152
    go_wp2_with fail
    refine (rFail a s p e 1 _ (unhide H)).mono ?_
    rintro x w1 ⟨rfl, hp⟩
    have HP := hide hp
    clear hp
    go_wp2
    go_ret
    exact ⟨rfl, unhide HP⟩
  · obtain ⟨m, rfl⟩ := Int.eq_ofNat_of_zero_le (by omega : 0 ≤ most)
    unfold textS
    rw [if_neg hm, Int.toNat_natCast]
    have hu := rUint a s p e m w h
    have hul := uintS_le s p e m
    have hup := (uintS_pos s p e m hle).1
    generalize uintS s p e m = q at hu hul hup ⊢
    obtain ⟨u, p1, e1⟩ := q
    simp only at hu hul hup ⊢
    have hraw := fun (w1 : World) (h1 : Rd w1 a s p1 e1) => rRaw a s p1 e1 u w1 h1
    have hbad := rawS_bad s p1 e1 u
    generalize rawS s p1 e1 u = q at hraw hbad ⊢
    obtain ⟨t, p2, e2⟩ := q
    simp only at hraw hbad ⊢
    have hat := rAt a s p e w h
    have HU := hide hu
    have HW := hide hraw
    have HA := hide hat
    clear hu hraw hat h
    by_cases he2 : e2 = 0
    · subst he2
      rw [if_neg (by simp)]
      clear hbad
      go_enter Try.func152, Try.ntmps152
      go_wp2_with fail
      refine (unhide HA).mono ?_
      rintro x w1 ⟨rfl, rfl⟩
      go_wp2_with fail
      refine (unhide HU).mono ?_
      rintro x w2 ⟨rfl, hp⟩
      have HP := hide hp
      clear hp
      go_wp2_with fail
      refine ((unhide HW) _ (unhide HP).1).mono ?_
      rintro x w3 ⟨rfl, hp⟩
      have HQ := hide hp
      clear hp
      go_wp2_with fail
      refine (rStop0 a s p2 _ (unhide HQ).1).mono ?_
      rintro x w4 ⟨rfl, rfl⟩
      go_wp2
      go_ret
      exact ⟨rfl, (unhide HP).trans (unhide HQ)⟩
    · rw [if_pos he2]
      have ht := hbad he2
      subst ht
      clear hbad
      have HE := hide he2
      clear he2
      go_enter Try.func152, Try.ntmps152
      go_wp2_with fail
      refine (unhide HA).mono ?_
      rintro x w1 ⟨rfl, rfl⟩
      go_wp2_with fail
      refine (unhide HU).mono ?_
      rintro x w2 ⟨rfl, hp⟩
      have HP := hide hp
      clear hp
      go_wp2_with fail
      refine ((unhide HW) _ (unhide HP).1).mono ?_
      rintro x w3 ⟨rfl, hp⟩
      have HQ := hide hp
      clear hp
      go_wp2_with fail
      refine (rStop1 a s p2 e2 _ (unhide HQ).1 (unhide HE)).mono ?_
      rintro x w4 ⟨rfl, rfl⟩
      go_wp2_with fail
      refine (rBack a s p2 e2 p _ (unhide HQ).1 hle).mono ?_
      rintro x w5 ⟨rfl, hp⟩
      have HS := hide hp
      clear hp
      go_wp2
      go_ret
      exact ⟨rfl, ((unhide HP).trans (unhide HQ)).trans (unhide HS)⟩
end Go.Proofs.Ytkcbljmjhlnjpaa.W
namespace Go.Proofs.Ytkcbljmjhlnjpaa
open Go.RowKit Go.Lib
/-- a text's bytes -/
def textB (t : ByteArray) : List UInt8 := W.uintB 9 t.size ++ t.data.toList
/-- a sibling's bytes -/
def sibB (x : Sb) : List UInt8 := W.uintB 9 x.a ++ (W.uintB 9 x.c ++ ([if x.gone then 1 else 0] ++ textB x.val))
def sibsB (l : List Sb) : List UInt8 := l.flatMap sibB
/-- a state's bytes -/
def stB (s : St) : List UInt8 := vecB s.seen ++ (W.uintB 9 s.sibs.length ++ sibsB s.sibs)
theorem sibB_len {x : Sb} (h : x.may) : (sibB x).length ≤ 80 := by
  have h1 := (uintB_len 9 x.a).2
  have h2 := (uintB_len 9 x.c).2
  have h3 := (uintB_len 9 x.val.size).2
  have h4 : x.val.size ≤ 40 := by unfold Sb.may at h; split at h <;> omega
  have h5 : x.val.data.toList.length = x.val.size := W.size_toList _
  unfold sibB textB
  simp only [List.length_append, List.length_cons, List.length_nil]
  omega
theorem sibsB_take (l : List Sb) {k : Nat} (h : k < l.length) : sibsB (l.take (k + 1)) = sibsB (l.take k) ++ sibB l[k] := by
  unfold sibsB
  rw [List.take_succ_eq_append_getElem h, List.flatMap_append]
  simp
theorem sibsB_len {l : List Sb} (h : ∀ x ∈ l, x.may) : (sibsB l).length ≤ 80 * l.length := by
  induction l with
  | nil => simp [sibsB]
  | cons x l ih =>
    have h1 := sibB_len (h x (List.mem_cons_self ..))
    have h2 := ih fun y hy => h y (List.mem_cons_of_mem _ hy)
    unfold sibsB at h2 ⊢
    rw [List.flatMap_cons, List.length_append, List.length_cons]
    omega
/-- a writer with a block beside it -/
structure Wx (u w : World) (B a r : Nat) (bs : List UInt8) (M : Nat) (o : Obj) : Prop where
  wn : Wn u w B a r bs
  box : w.heap[M]? = some o
  na : M ≠ a
  nr : M ≠ r
theorem Wx.put {u w w' : World} {B a r r' M : Nat} {bs bs' : List UInt8} {o : Obj} (h : Wx u w B a r bs M o) (hp : W.Put w w' a r r' bs') : Wx u w' B a r' bs' M o :=
  ⟨h.wn.put hp, (hp.2.2.block M (Array.getElem?_eq_some_iff.1 h.box).1 h.na h.nr).trans h.box, h.na, by
    have hlt := (Array.getElem?_eq_some_iff.1 h.box).1
    rcases hp.2.1 with e | e
    · rw [e]; exact h.nr
    · omega⟩
theorem Wx.uint {u w : World} {B a r M : Nat} {bs : List UInt8} {o : Obj} (h : Wx u w B a r bs M o) (v : Nat) (hv : v < 18446744073709551616) (hl : bs.length ≤ 1000000) : Calls Try.prog 128 #[.pointer (some ⟨a, 0, none⟩), .int .u64 (v : Int)] w fun e w' => e = .returned (.tuple #[]) ∧ ∃ r', Wx u w' B a r' (bs ++ W.uintB 9 v) M o :=
  (W.wUint a r bs v w h.wn.wr hv (by omega)).mono fun e w' ⟨h1, r', hp⟩ => ⟨h1, r', h.put hp⟩
theorem Wx.byte {u w : World} {B a r M : Nat} {bs : List UInt8} {o : Obj} (h : Wx u w B a r bs M o) (v : Int) (h0 : 0 ≤ v) (h1 : v < 256) (hl : bs.length ≤ 1000000) : Calls Try.prog 101 #[.pointer (some ⟨a, 0, none⟩), .int .u8 v] w fun e w' => e = .returned (.tuple #[]) ∧ ∃ r', Wx u w' B a r' (bs ++ [UInt8.ofNat v.toNat]) M o :=
  (W.wByte a r bs v w h.wn.wr h0 h1 (by omega)).mono fun e w' ⟨h1, r', hp⟩ => ⟨h1, r', h.put hp⟩
theorem Wx.text {u w : World} {B a r M : Nat} {bs : List UInt8} {o : Obj} (h : Wx u w B a r bs M o) (s : ByteArray) (hs : s.size ≤ 1000000) (hl : bs.length ≤ 1000000) : Calls Try.prog 102 #[.pointer (some ⟨a, 0, none⟩), .string s] w fun e w' => e = .returned (.tuple #[]) ∧ ∃ r', Wx u w' B a r' (bs ++ textB s) M o :=
  (W.wText a r bs s w h.wn.wr (by omega)).mono fun e w' ⟨h1, r', hp⟩ => ⟨h1, r', h.put hp⟩
theorem Wn.box {u w w' : World} {B a r N : Nat} {bs : List UInt8} {o : Obj} (h : Wn u w B a r bs) (hN : N = w.heap.size) (hb : Below N w w') (hx : w'.heap[N]? = some o) : Wx u w' B a r bs N o :=
  ⟨h.belw (by rw [← hN]; exact hb), hx, by have := h.wr.1; omega, by have := h.wr.2.1; omega⟩
set_option maxRecDepth 100000 in
set_option maxHeartbeats 4000000 in
theorem dPutSib (x : Sb) (hx : x.Fit) (hm : x.may) (u0 u : World) (B a r : Nat) (bs : List UInt8) (h : Wn u0 u B a r bs) (hl : bs.length ≤ 900000) : Calls Try.prog 129 #[.pointer (some ⟨a, 0, none⟩), x.v] u fun e u' => e = .returned (.tuple #[]) ∧ ∃ r', Wn u0 u' B a r' (bs ++ sibB x) := by
  obtain ⟨N, hN⟩ : ∃ N, N = u.heap.size := ⟨_, rfl⟩
  have HN := hide hN
  have HW := hide h
  have HL1 := hide hl
  have HFX := hide hx
  have hca : IntKind.u64.wrap (x.a : Int) = (x.a : Int) := by have := hx.1; rw [IntKind.wrap_u64]; omega
  have h4 : x.val.size ≤ 40 := by unfold Sb.may at hm; split at hm <;> omega
  have HV4 := hide h4
  have L1 := (uintB_len 9 x.a).2
  have L2 := (uintB_len 9 x.c).2
  have HL2 : Hid ((bs ++ W.uintB 9 x.a).length ≤ 1000000) := hide (by rw [List.length_append]; omega)
  have HL3 : Hid ((bs ++ W.uintB 9 x.a ++ W.uintB 9 x.c).length ≤ 1000000) := hide (by rw [List.length_append, List.length_append]; omega)
  have HL4 : Hid (∀ b : UInt8, (bs ++ W.uintB 9 x.a ++ W.uintB 9 x.c ++ [b]).length ≤ 1000000) := hide (fun b => by rw [List.length_append, List.length_append, List.length_append, List.length_cons, List.length_nil]; omega)
  have HR1 : Hid (x.gone = true → bs ++ W.uintB 9 x.a ++ W.uintB 9 x.c ++ [1] ++ textB x.val = bs ++ sibB x) := fun h => by unfold sibB; rw [h, if_pos rfl]; simp only [List.append_assoc]
  have HR0 : Hid (x.gone = false → bs ++ W.uintB 9 x.a ++ W.uintB 9 x.c ++ [0] ++ textB x.val = bs ++ sibB x) := fun h => by unfold sibB; rw [h, if_neg (by decide)]; simp only [List.append_assoc]
  clear hN h hl hx hm h4 L1 L2
  generalize bs ++ sibB x = bs5 at *
  obtain ⟨xa, xc, xg, xv⟩ := x
  cases xg
  · have HE := hide (unhide HR0 rfl)
    clear HR0 HR1
    go_enter Try.func129, Try.ntmps129
    go_wp2_with (first
      | ((with_reducible refine wpList_box_sib (by rfl) (.tmp 1) (by rfl) (some 3) (by rfl) N (unhide HN) ⟨xa, xc, false, xv⟩ (by with_unfolding_all rfl) ?_); intro W1 HX1 HB1 HS1; simp only [Act.put, List.setIfInBounds_toArray, List.set_cons_zero, List.set_cons_succ]; have HW1 := hide ((unhide HW).box (unhide HN) (unhide HB1) (unhide HX1)); obtain ⟨y0, y1, y2, y3⟩ := sib_cells (unhide HX1); clear HW HX1 HB1 HS1)
      | (go_at_call 128; refine ((unhide HW1).uint xa (Nat.lt_trans (unhide HFX).1 (by decide)) (Nat.le_trans (unhide HL1) (by decide))).mono ?_; rintro e W2 ⟨rfl, r2, hw2⟩; have HW2 := hide hw2; clear hw2 HW1; obtain ⟨y0, y1, y2, y3⟩ := sib_cells (unhide HW2).box)
      | (go_at_call 128; refine ((unhide HW2).uint xc (unhide HFX).2.1 (unhide HL2)).mono ?_; rintro e W3 ⟨rfl, r3, hw3⟩; have HW3 := hide hw3; clear hw3 HW2; obtain ⟨y0, y1, y2, y3⟩ := sib_cells (unhide HW3).box)
      | (go_at_call 101; refine ((unhide HW3).byte 0 (by decide) (by decide) (unhide HL3)).mono ?_; rintro e W4 ⟨rfl, r4, hw4⟩; have HW4 := hide hw4; clear hw4 HW3; obtain ⟨y0, y1, y2, y3⟩ := sib_cells (unhide HW4).box)
      | (go_at_call 102; refine ((unhide HW4).text xv (Nat.le_trans (unhide HV4) (by decide)) (unhide HL4 _)).mono ?_; rintro e W5 ⟨rfl, r5, hw5⟩; have HW5 := hide hw5; clear hw5 HW4)
      | fail)
    go_returns
    exact ⟨rfl, r5, by rw [← unhide HE]; exact (unhide HW5).wn⟩
  · have HE := hide (unhide HR1 rfl)
    clear HR0 HR1
    go_enter Try.func129, Try.ntmps129
    go_wp2_with (first
      | ((with_reducible refine wpList_box_sib (by rfl) (.tmp 1) (by rfl) (some 3) (by rfl) N (unhide HN) ⟨xa, xc, true, xv⟩ (by with_unfolding_all rfl) ?_); intro W1 HX1 HB1 HS1; simp only [Act.put, List.setIfInBounds_toArray, List.set_cons_zero, List.set_cons_succ]; have HW1 := hide ((unhide HW).box (unhide HN) (unhide HB1) (unhide HX1)); obtain ⟨y0, y1, y2, y3⟩ := sib_cells (unhide HX1); clear HW HX1 HB1 HS1)
      | (go_at_call 128; refine ((unhide HW1).uint xa (Nat.lt_trans (unhide HFX).1 (by decide)) (Nat.le_trans (unhide HL1) (by decide))).mono ?_; rintro e W2 ⟨rfl, r2, hw2⟩; have HW2 := hide hw2; clear hw2 HW1; obtain ⟨y0, y1, y2, y3⟩ := sib_cells (unhide HW2).box)
      | (go_at_call 128; refine ((unhide HW2).uint xc (unhide HFX).2.1 (unhide HL2)).mono ?_; rintro e W3 ⟨rfl, r3, hw3⟩; have HW3 := hide hw3; clear hw3 HW2; obtain ⟨y0, y1, y2, y3⟩ := sib_cells (unhide HW3).box)
      | (go_at_call 101; refine ((unhide HW3).byte 1 (by decide) (by decide) (unhide HL3)).mono ?_; rintro e W4 ⟨rfl, r4, hw4⟩; have HW4 := hide hw4; clear hw4 HW3; obtain ⟨y0, y1, y2, y3⟩ := sib_cells (unhide HW4).box)
      | (go_at_call 102; refine ((unhide HW4).text xv (Nat.le_trans (unhide HV4) (by decide)) (unhide HL4 _)).mono ?_; rintro e W5 ⟨rfl, r5, hw5⟩; have HW5 := hide hw5; clear hw5 HW4)
      | fail)
    go_returns
    exact ⟨rfl, r5, by rw [← unhide HE]; exact (unhide HW5).wn⟩
open Classical in
/-- what Encode answers -/
noncomputable def encT (s : St) : ByteArray × Int := if SOk s then (⟨(stB s).toArray⟩, 0) else (⟨#[]⟩, 110)
theorem stB_len {s : St} (h : SOk s) : (stB s).length ≤ 10000 := by
  have h1 := sibsB_len h.may
  have h2 := (uintB_len 9 s.sibs.length).2
  have h3 := h.len
  have h5 : (vecB s.seen).length ≤ 1290 := by
    have h6 := dotsB_len s.seen
    have h7 := (uintB_len 9 s.seen.length).2
    have h8 := h.slen
    unfold vecB
    rw [List.length_append]; omega
  unfold stB
  rw [List.length_append, List.length_append]
  omega
set_option maxRecDepth 100000 in
set_option maxHeartbeats 4000000 in
theorem dEncode (s : St) (v : Sv) (u : World) (h : SAt u s v) (t : ByteArray) (r : Int) (he : encT s = (t, r)) : Calls Try.prog 87 #[v.v s.seen.length s.sibs.length] u fun e u' => e = .returned (.tuple #[.string t, .int .i64 r]) ∧ Below u.heap.size u u' := by
  obtain ⟨N, hN⟩ : ∃ N, N = u.heap.size := ⟨_, rfl⟩
  have HN := hide hN
  have HA := hide h
  rw [← hN]
  obtain ⟨n1, hn1⟩ : ∃ n, n = s.seen.length := ⟨_, rfl⟩
  obtain ⟨m1, hm1⟩ : ∃ n, n = s.sibs.length := ⟨_, rfl⟩
  have E1 := hide hn1
  have E2 := hide hm1
  rw [← hn1, ← hm1]
  have HV1 : Hid (∀ W : World, SAt W s v → Calls Try.prog 81 #[v.v n1 m1] W fun e W' => e = .returned (.bool (sokB s)) ∧ Below W.heap.size W W') := fun W h => by rw [hn1, hm1]; exact dValid' s v W h
  have HU : Hid (∀ W : World, Below N u W → Below u.heap.size u W) := fun W hW => by rw [← unhide HN]; exact hW
  by_cases os : SOk s
  · rw [show encT s = (⟨(stB s).toArray⟩, 0) by unfold encT; rw [if_pos os]] at he
    cases he
    rw [sokB_true.2 os] at HV1
    have HOS := hide os
    have hm64 : (m1 : Int) ≤ 64 := by have := os.len; omega
    have HM64 : Hid (m1 < 18446744073709551616) := hide (by omega)
    have hcm : IntKind.u64.wrap (m1 : Int) = (m1 : Int) := by rw [IntKind.wrap_u64]; omega
    have HPV : Hid (∀ (u0 w : World) (a r : Nat), SAt u0 s v → Wn u0 w u0.heap.size a r [] → Calls Try.prog 127 #[.pointer (some ⟨a, 0, none⟩), .slice v.sa n1 v.sc] w fun e w' => e = .returned (.int .i64 0) ∧ ∃ r', Wn u0 w' u0.heap.size a r' (vecB s.seen)) := fun u0 w a r hs hw => by
      rw [hn1]
      refine (vPut s.seen v.sa v.sc a r [] u0 w hs.seen.at hw (by simp)).mono ?_
      rintro e w' ⟨r', h1, _⟩
      have := h1 (V.okB_true.2 os.ok)
      exact ⟨this.1, r', this.2⟩
    have HLV : Hid ((vecB s.seen).length ≤ 10000 ∧ (vecB s.seen ++ W.uintB 9 m1).length ≤ 10000 ∧ ∀ k, k ≤ m1 → (vecB s.seen ++ W.uintB 9 m1 ++ sibsB (s.sibs.take k)).length ≤ 10000) := by
      have h0 := stB_len os
      have h1 : ∀ k, (sibsB (s.sibs.take k)).length ≤ (sibsB s.sibs).length := fun k => by
        have : sibsB s.sibs = sibsB (s.sibs.take k) ++ sibsB (s.sibs.drop k) := by unfold sibsB; rw [← List.flatMap_append, List.take_append_drop]
        rw [this, List.length_append]; omega
      unfold stB at h0
      rw [List.length_append, List.length_append, ← hm1] at h0
      refine ⟨by omega, by rw [List.length_append]; omega, fun k _ => ?_⟩
      have := h1 k
      rw [List.length_append, List.length_append]; omega
    have HSB : Hid (vecB s.seen ++ W.uintB 9 m1 ++ sibsB (s.sibs.take m1) = stB s) := by
      unfold stB
      rw [hm1, List.take_of_length_le (Nat.le_refl _), List.append_assoc]; exact rfl
    have HNW : Hid (∀ X : World, Calls Try.prog 58 #[] X fun e X' => ∃ a r, e = .returned (.pointer (some ⟨a, 0, none⟩)) ∧ Wn X X' X.heap.size a r []) := fun X => (W.wNew X).mono fun e X' hh => by
      obtain ⟨h1, h2⟩ := hh
      exact ⟨_, _, h1, by rw [h2]; exact Wn.new X 129⟩
    clear hN hn1 hm1 h os
    generalize stB s = SB at *
    go_enter Try.func87, Try.ntmps87
    go_wp2_with (first
      | ((with_reducible refine wpList_box_state (by rfl) (.tmp 0) (by rfl) (some 1) (by rfl) N (unhide HN) v n1 m1 (by with_unfolding_all rfl) ?_); intro W1 HX1 HB1 HS1; simp only [Act.put, List.setIfInBounds_toArray, List.set_cons_zero, List.set_cons_succ]; have HA1 := hide ((unhide HA).below (unhide HU _ (unhide HB1))); obtain ⟨x0, x1⟩ := st_cells (unhide HX1))
      | (go_at_call 81; refine (unhide HV1 W1 (unhide HA1)).mono ?_; rintro e W2 ⟨rfl, hb2⟩; have HB2 := hide hb2; clear hb2; have HA2 := hide ((unhide HA1).below (unhide HB2)); have HX2 := hide (box_below (unhide HX1) (unhide HB2)))
      | (go_at_call 58; refine (unhide HNW W2).mono ?_; rintro e W3 ⟨a, r3, rfl, hw3⟩; have HW3 := hide hw3; clear hw3; obtain ⟨x0, x1⟩ := st_cells (box_below (unhide HX2) (unhide HW3).below))
      | (go_at_call 127; refine (unhide HPV W2 W3 a r3 (unhide HA2) (unhide HW3)).mono ?_; rintro e W4 ⟨rfl, r4, hw4⟩; have HW4 := hide hw4; clear hw4; obtain ⟨x0, x1⟩ := st_cells (box_below (unhide HX2) (unhide HW4).below))
      | (go_at_call 128; refine (W.wUint a r4 _ m1 W4 (unhide HW4).wr (unhide HM64) (by have := (unhide HLV).1; omega)).mono ?_; rintro e W5 ⟨rfl, r5, hp5⟩; have HW5 := hide ((unhide HW4).put hp5); clear hp5; obtain ⟨x0, x1⟩ := st_cells (box_below (unhide HX2) (unhide HW5).below))
      | fail)
    have HBU : Hid (∀ W : World, Below W2.heap.size W2 W → Below N u W) := fun W hW => (unhide HB1).trans (((unhide HB2).trans (hW.mono (unhide HB2).size)).mono (by rw [unhide HS1]; omega))
    have HLA := hide (unhide HA2).sibs
    clear x0 x1 HA HA1 HB1 HB2 HX1 HS1 HA2 HV1 HPV HNW HW3 HW4
    go_loopw [24] (fun s24 wr => ∃ (k r6 : Nat), k ≤ m1 ∧ s24 = .int .i64 k ∧ Hid (Wn W2 wr W2.heap.size a r6 (vecB s.seen ++ W.uintB 9 m1 ++ sibsB (s.sibs.take k)))) (fun s24 _ => m1 - (intOf s24).toNat)
    case atStart => exact ⟨0, r5, Nat.zero_le _, rfl, by rw [List.take_zero, show sibsB [] = [] from rfl, List.append_nil]; exact unhide HW5⟩
    case round =>
      obtain ⟨k, r6, hk, rfl, HI⟩ := hrel
      by_cases hlt : k < m1
      · have hki : (k : Int) < (m1 : Int) := by omega
        have hkl : k < s.sibs.length := by rw [← unhide E2]; exact hlt
        obtain ⟨g, o, hao, c1, c2, c3, c4⟩ := ((unhide HLA).lies.below (unhide HI).below).sb hkl
        have hix := ixS g o m1 v.bc k hlt
        obtain ⟨M, hM⟩ : ∃ M, M = wr.heap.size := ⟨_, rfl⟩
        have HM := hide hM
        clear hM
        have HFQ := hide ((unhide HLA).fits _ (List.getElem_mem hkl))
        have HMQ := hide ((unhide HOS).may _ (List.getElem_mem hkl))
        have HTK := hide (sibsB_take s.sibs hkl)
        have HLK := hide ((unhide HLV).2.2 k hk)
        generalize s.sibs[k] = q at *
        have c1 : wr.cell? ⟨g, o + k * 4, none⟩ = some (.int .u32 (q.a : Int)) := c1
        have c2 : wr.cell? ⟨g, o + k * 4 + 1, none⟩ = some (.int .u64 (q.c : Int)) := c2
        have c3 : wr.cell? ⟨g, o + k * 4 + 2, none⟩ = some (.bool q.gone) := c3
        have c4 : wr.cell? ⟨g, o + k * 4 + 3, none⟩ = some (.string q.val) := c4
        generalize o + k * 4 = oo at *
        rw [hao]
        go_wp2_with (first
          | ((with_reducible refine wpList_alloc_sib (by rfl) (by rfl) (some 6) (by rfl) M (unhide HM) ?_); intro W7 HX7 HB7 HS7; simp only [Act.put, List.setIfInBounds_toArray, List.set_cons_zero, List.set_cons_succ])
          | ((with_reducible refine wpList_store_sib (by rfl) (.tmp 6) (.tmp 27) (by rfl) M q (by with_unfolding_all rfl) (by with_unfolding_all rfl) (unhide HX7) ?_); intro W8 HX8 HE8; simp only [Act.put]; have HW8 := hide ((unhide HI).belw (w' := W8) (by rw [← unhide HM, unhide HE8]; exact belowRow (unhide HB7) (Nat.le_refl _) _)); obtain ⟨y0, y1, y2, y3⟩ := sib_cells (unhide HX8))
          | (go_at_call 129; refine (dPutSib q (unhide HFQ) (unhide HMQ) W2 W8 _ a r6 _ (unhide HW8) (Nat.le_trans (unhide HLK) (by decide))).mono ?_; rintro e W9 ⟨rfl, r9, hw9⟩; have HW9 := hide hw9; clear hw9)
          | fail)
        go_roundw
        case rel => exact ⟨k + 1, r9, by omega, by go_num, by rw [unhide HTK, ← List.append_assoc]; exact unhide HW9⟩
        case measure => simp [intOf]; omega
      · obtain rfl : k = m1 := by omega
        have hki : ¬ (k : Int) < (k : Int) := by omega
        have HI2 : Hid (Wn W2 wr W2.heap.size a r6 SB) := by rw [← unhide HSB]; exact unhide HI
        go_wp2_with (first
          | (go_at_call 61; refine (W.wTold a r6 SB wr (unhide HI2).wr).mono ?_; rintro e W9 ⟨rfl, rfl⟩)
          | fail)
        go_ret2
        exact ⟨rfl, unhide HBU _ (unhide HI2).below⟩
  · rw [show encT s = (⟨#[]⟩, 110) by unfold encT; rw [if_neg os]] at he
    cases he
    rw [sokB_false.2 os] at HV1
    clear hN hn1 hm1 h os
    go_enter Try.func87, Try.ntmps87
    go_wp2_with (first
      | ((with_reducible refine wpList_box_state (by rfl) (.tmp 0) (by rfl) (some 1) (by rfl) N (unhide HN) v n1 m1 (by with_unfolding_all rfl) ?_); intro W1 HX1 HB1 HS1; simp only [Act.put, List.setIfInBounds_toArray, List.set_cons_zero, List.set_cons_succ]; have HA1 := hide ((unhide HA).below (unhide HU _ (unhide HB1))); obtain ⟨x0, x1⟩ := st_cells (unhide HX1))
      | (go_at_call 81; refine (unhide HV1 W1 (unhide HA1)).mono ?_; rintro e W2 ⟨rfl, hb2⟩; have HB2 := hide hb2; clear hb2)
      | fail)
    go_ret2
    exact ⟨rfl, (unhide HB1).trans ((unhide HB2).mono (by rw [unhide HS1]; omega))⟩
end Go.Proofs.Ytkcbljmjhlnjpaa
namespace Go.Proofs.Ytkcbljmjhlnjpaa
open Go.RowKit Go.Lib
/-- what is noted behind a mark -/
def markE (m : Nat) (e : Int) : Int := if m ≠ 0 ∧ m ≠ 1 then W.failE e 110 else e
/-- a sibling, as it is taken -/
def tkX (s : ByteArray) (p : Nat) (e : Int) : Sb × Nat × Int :=
  (⟨(W.uintS s p e 4294967295).1, (W.uintS s (W.uintS s p e 4294967295).2.1 (W.uintS s p e 4294967295).2.2 1099511627776).1,
    decide ((W.fixS s (W.uintS s (W.uintS s p e 4294967295).2.1 (W.uintS s p e 4294967295).2.2 1099511627776).2.1 (W.uintS s (W.uintS s p e 4294967295).2.1 (W.uintS s p e 4294967295).2.2 1099511627776).2.2 1).1 % 256 = 1),
    (W.textS s (W.fixS s (W.uintS s (W.uintS s p e 4294967295).2.1 (W.uintS s p e 4294967295).2.2 1099511627776).2.1 (W.uintS s (W.uintS s p e 4294967295).2.1 (W.uintS s p e 4294967295).2.2 1099511627776).2.2 1).2.1
      (markE ((W.fixS s (W.uintS s (W.uintS s p e 4294967295).2.1 (W.uintS s p e 4294967295).2.2 1099511627776).2.1 (W.uintS s (W.uintS s p e 4294967295).2.1 (W.uintS s p e 4294967295).2.2 1099511627776).2.2 1).1 % 256) (W.fixS s (W.uintS s (W.uintS s p e 4294967295).2.1 (W.uintS s p e 4294967295).2.2 1099511627776).2.1 (W.uintS s (W.uintS s p e 4294967295).2.1 (W.uintS s p e 4294967295).2.2 1099511627776).2.2 1).2.2) 40).1⟩,
    (W.textS s (W.fixS s (W.uintS s (W.uintS s p e 4294967295).2.1 (W.uintS s p e 4294967295).2.2 1099511627776).2.1 (W.uintS s (W.uintS s p e 4294967295).2.1 (W.uintS s p e 4294967295).2.2 1099511627776).2.2 1).2.1
      (markE ((W.fixS s (W.uintS s (W.uintS s p e 4294967295).2.1 (W.uintS s p e 4294967295).2.2 1099511627776).2.1 (W.uintS s (W.uintS s p e 4294967295).2.1 (W.uintS s p e 4294967295).2.2 1099511627776).2.2 1).1 % 256) (W.fixS s (W.uintS s (W.uintS s p e 4294967295).2.1 (W.uintS s p e 4294967295).2.2 1099511627776).2.1 (W.uintS s (W.uintS s p e 4294967295).2.1 (W.uintS s p e 4294967295).2.2 1099511627776).2.2 1).2.2) 40).2)
/-- the same with letters -/
theorem tkX_eq {s : ByteArray} {p : Nat} {e : Int} {xa px xc py xm pm : Nat} {ex ey em : Int} {tv : ByteArray} {pt : Nat} {et : Int} (h1 : W.uintS s p e 4294967295 = (xa, px, ex)) (h2 : W.uintS s px ex 1099511627776 = (xc, py, ey)) (h3 : W.fixS s py ey 1 = (xm, pm, em)) (h4 : W.textS s pm (markE (xm % 256) em) 40 = (tv, pt, et)) :
    tkX s p e = (⟨xa, xc, decide (xm % 256 = 1), tv⟩, pt, et) := by
  unfold tkX
  simp only [h1, h2, h3, h4]
/-- a reader with a block beside it -/
structure Rx (u w : World) (a : Nat) (s : ByteArray) (p : Nat) (e : Int) (M : Nat) (o : Obj) : Prop where
  rd : W.Rd w a s p e
  upd : W.Upd u w a a
  box : w.heap[M]? = some o
  na : M ≠ a
  lo : u.heap.size ≤ M
theorem Rx.step {u w w' : World} {a : Nat} {s : ByteArray} {p p' : Nat} {e e' : Int} {M : Nat} {o : Obj} (h : Rx u w a s p e M o) (hr : W.Rt w w' a s p' e') : Rx u w' a s p' e' M o :=
  ⟨hr.1, h.upd.trans hr.2 (.inl rfl), (hr.2.block M (Array.getElem?_eq_some_iff.1 h.box).1 h.na h.na).trans h.box, h.na, h.lo⟩
theorem Rx.row {u w : World} {a : Nat} {s : ByteArray} {p : Nat} {e : Int} {M : Nat} {o : Obj} (h : Rx u w a s p e M o) (cs : Array Value) : W.Rt u (w.setRow M cs) a s p e := by
  refine ⟨h.rd.same (by simp [World.setRow]) (heapRow_other _ _ _ _ (fun q => h.na q.symm)), h.upd.os, h.upd.tape, h.upd.output, by simpa [World.setRow] using h.upd.size, fun k hk h1 h2 => ?_⟩
  exact (heapRow_other _ _ _ _ (by have := h.lo; omega)).trans (h.upd.block k hk h1 h2)
theorem Rx.new {u w : World} {a : Nat} {s : ByteArray} {p : Nat} {e : Int} {N : Nat} {o : Obj} (h : W.Rd u a s p e) (hN : N = u.heap.size) (hb : Below N u w) (hx : w.heap[N]? = some o) : Rx u w a s p e N o := by
  subst hN
  exact ⟨Rd.below h hb, ⟨hb.os, hb.tape, hb.output, hb.size, fun k hk _ _ => hb.block k hk⟩, hx, by have := h.lt; omega, Nat.le_refl _⟩
theorem tkX_fit (s : ByteArray) (p : Nat) (e : Int) : (tkX s p e).1.Fit := by
  refine ⟨?_, ?_, ?_⟩
  · have := uintS_le s p e 4294967295
    show (W.uintS s p e 4294967295).1 < _
    omega
  · have := uintS_le s (W.uintS s p e 4294967295).2.1 (W.uintS s p e 4294967295).2.2 1099511627776
    show (W.uintS s (W.uintS s p e 4294967295).2.1 (W.uintS s p e 4294967295).2.2 1099511627776).1 < _
    omega
  · have key : ∀ (p : Nat) (e : Int), (W.textS s p e 40).1.size ≤ 140737488355328 := fun p e => by
      unfold W.textS
      rw [if_neg (by decide)]
      split
      · simp [ByteArray.size]
      · have h1 := W.rawS_size s (W.uintS s p e 40).2.1 (W.uintS s p e 40).2.2 (W.uintS s p e 40).1
        have h2 := uintS_le s p e 40
        have e1 : (40 : Int).toNat = 40 := rfl
        rw [e1]
        omega
    exact key _ _
set_option maxRecDepth 100000 in
set_option maxHeartbeats 4000000 in
theorem dTakeSib (a : Nat) (s : ByteArray) (p : Nat) (e : Int) (u : World) (h : W.Rd u a s p e) : Calls Try.prog 119 #[.pointer (some ⟨a, 0, none⟩)] u fun y u' => y = .returned (tkX s p e).1.v ∧ W.Rt u u' a s (tkX s p e).2.1 (tkX s p e).2.2 := by
  obtain ⟨N, hN⟩ : ∃ N, N = u.heap.size := ⟨_, rfl⟩
  have HN := hide hN
  have HR := hide h
  obtain ⟨xa, px, ex, h1⟩ : ∃ xa px ex, W.uintS s p e 4294967295 = (xa, px, ex) := ⟨_, _, _, rfl⟩
  obtain ⟨xc, py, ey, h2⟩ : ∃ xc py ey, W.uintS s px ex 1099511627776 = (xc, py, ey) := ⟨_, _, _, rfl⟩
  obtain ⟨xm, pm, em, h3⟩ : ∃ xm pm em, W.fixS s py ey 1 = (xm, pm, em) := ⟨_, _, _, rfl⟩
  obtain ⟨tv, pt, et, h4⟩ : ∃ tv pt et, W.textS s pm (markE (xm % 256) em) 40 = (tv, pt, et) := ⟨_, _, _, rfl⟩
  rw [tkX_eq h1 h2 h3 h4]
  have hxa : xa ≤ 4294967295 := by have := uintS_le s p e 4294967295; rw [h1] at this; exact this
  have hwx : IntKind.u32.wrap (xa : Int) = (xa : Int) := by rw [IntKind.wrap_u32]; omega
  have HU1 : Hid (∀ w : World, W.Rd w a s p e → Calls Try.prog 117 #[.pointer (some ⟨a, 0, none⟩), .int .u64 4294967295] w fun y w' => y = .returned (.int .u64 (xa : Int)) ∧ W.Rt w w' a s px ex) := fun w hw => by have := W.rUint a s p e 4294967295 w hw; rw [h1] at this; exact this
  have HU2 : Hid (∀ w : World, W.Rd w a s px ex → Calls Try.prog 117 #[.pointer (some ⟨a, 0, none⟩), .int .u64 1099511627776] w fun y w' => y = .returned (.int .u64 (xc : Int)) ∧ W.Rt w w' a s py ey) := fun w hw => by have := W.rUint a s px ex 1099511627776 w hw; rw [h2] at this; exact this
  have HBY : Hid (∀ w : World, W.Rd w a s py ey → Calls Try.prog 151 #[.pointer (some ⟨a, 0, none⟩)] w fun y w' => y = .returned (.int .u8 ((xm % 256 : Nat) : Int)) ∧ W.Rt w w' a s pm em) := fun w hw => by have := W.rByte a s py ey w hw; rw [h3] at this; exact this
  have HFL : Hid (∀ w : World, W.Rd w a s pm em → Calls Try.prog 149 #[.pointer (some ⟨a, 0, none⟩), .int .i64 110] w fun y w' => y = .returned (.tuple #[]) ∧ W.Rt w w' a s pm (W.failE em 110)) := fun w hw => W.rFail a s pm em 110 w hw
  have HTX : Hid (∀ w : World, W.Rd w a s pm (markE (xm % 256) em) → Calls Try.prog 152 #[.pointer (some ⟨a, 0, none⟩), .int .i64 40] w fun y w' => y = .returned (.string tv) ∧ W.Rt w w' a s pt et) := fun w hw => by have := W.rText a s pm (markE (xm % 256) em) 40 w hw (by decide); rw [h4] at this; exact this
  clear hN h h1 h2 h3 h4 hxa
  have hmk : xm % 256 < 256 := Nat.mod_lt _ (by decide)
  generalize xm % 256 = k at *
  by_cases h0 : k = 0 ∨ k = 1
  · have HME : Hid (markE k em = em) := by unfold markE; rw [if_neg (by omega)]; exact rfl
    rw [unhide HME] at HTX
    rcases h0 with rfl | rfl
    · clear hmk
      go_enter Try.func119, Try.ntmps119
      go_wp2_with (first
        | ((with_reducible refine wpList_alloc_sib (by rfl) (by rfl) (some 2) (by rfl) N (unhide HN) ?_); intro W1 HX1 HB1 HS1; simp only [Act.put, List.setIfInBounds_toArray, List.set_cons_zero, List.set_cons_succ]; have HT1 := hide (Rx.new (unhide HR) (unhide HN) (unhide HB1) (unhide HX1)))
        | (go_at_call 117; refine (unhide HU1 W1 (unhide HT1).rd).mono ?_; rintro y W2 ⟨rfl, hr⟩; have HT2 := hide ((unhide HT1).step hr); clear hr HU1)
        | (go_at_call 117; refine (unhide HU2 W2 (unhide HT2).rd).mono ?_; rintro y W3 ⟨rfl, hr⟩; have HT3 := hide ((unhide HT2).step hr); clear hr)
        | (go_at_call 151; refine (unhide HBY W3 (unhide HT3).rd).mono ?_; rintro y W4 ⟨rfl, hr⟩; have HT4 := hide ((unhide HT3).step hr); clear hr)
        | (go_at_call 152; refine (unhide HTX W4 (unhide HT4).rd).mono ?_; rintro y W5 ⟨rfl, hr⟩; have HT5 := hide ((unhide HT4).step hr); clear hr)
        | ((with_reducible refine wpList_store_sib (by rfl) (.tmp 2) (.tmp 30) (by rfl) N ⟨xa, xc, false, tv⟩ (by with_unfolding_all rfl) (by with_unfolding_all rfl) (unhide HT5).box ?_); intro W6 HX6 HE6; simp only [Act.put])
        | fail)
      refine bodyPost_ret (results_cell rfl _ _ N 69 #[.int .u32 (xa : Int), .int .u64 (xc : Int), .bool false, .string tv] (0, 0) _ rfl (unhide HX6) sibUnd rfl sibInfo) rfl ?_
      exact ⟨rfl, by rw [unhide HE6]; exact (unhide HT5).row _⟩
    · clear hmk
      go_enter Try.func119, Try.ntmps119
      go_wp2_with (first
        | ((with_reducible refine wpList_alloc_sib (by rfl) (by rfl) (some 2) (by rfl) N (unhide HN) ?_); intro W1 HX1 HB1 HS1; simp only [Act.put, List.setIfInBounds_toArray, List.set_cons_zero, List.set_cons_succ]; have HT1 := hide (Rx.new (unhide HR) (unhide HN) (unhide HB1) (unhide HX1)))
        | (go_at_call 117; refine (unhide HU1 W1 (unhide HT1).rd).mono ?_; rintro y W2 ⟨rfl, hr⟩; have HT2 := hide ((unhide HT1).step hr); clear hr HU1)
        | (go_at_call 117; refine (unhide HU2 W2 (unhide HT2).rd).mono ?_; rintro y W3 ⟨rfl, hr⟩; have HT3 := hide ((unhide HT2).step hr); clear hr)
        | (go_at_call 151; refine (unhide HBY W3 (unhide HT3).rd).mono ?_; rintro y W4 ⟨rfl, hr⟩; have HT4 := hide ((unhide HT3).step hr); clear hr)
        | (go_at_call 152; refine (unhide HTX W4 (unhide HT4).rd).mono ?_; rintro y W5 ⟨rfl, hr⟩; have HT5 := hide ((unhide HT4).step hr); clear hr)
        | ((with_reducible refine wpList_store_sib (by rfl) (.tmp 2) (.tmp 30) (by rfl) N ⟨xa, xc, true, tv⟩ (by with_unfolding_all rfl) (by with_unfolding_all rfl) (unhide HT5).box ?_); intro W6 HX6 HE6; simp only [Act.put])
        | fail)
      refine bodyPost_ret (results_cell rfl _ _ N 69 #[.int .u32 (xa : Int), .int .u64 (xc : Int), .bool true, .string tv] (0, 0) _ rfl (unhide HX6) sibUnd rfl sibInfo) rfl ?_
      exact ⟨rfl, by rw [unhide HE6]; exact (unhide HT5).row _⟩
  · have HME : Hid (markE k em = W.failE em 110) := by unfold markE; rw [if_pos (by omega)]; exact rfl
    rw [unhide HME] at HTX
    rw [decide_eq_false (show ¬ k = 1 by omega)]
    have hk0 : ((k : Int) == 0) = false := by simp; omega
    have hk1 : ((k : Int) == 1) = false := by simp; omega
    have hk2 : ¬ (k : Int) = 0 := by omega
    have hk3 : ¬ (k : Int) = 1 := by omega
    have hk4 : ¬ k = 0 := by omega
    have hk5 : ¬ k = 1 := by omega
    have hk6 : ((k : Int) != 0) = true := by simp; omega
    have hk7 : ((k : Int) != 1) = true := by simp; omega
    clear h0
    go_enter Try.func119, Try.ntmps119
    go_wp2_with (first
      | ((with_reducible refine wpList_alloc_sib (by rfl) (by rfl) (some 2) (by rfl) N (unhide HN) ?_); intro W1 HX1 HB1 HS1; simp only [Act.put, List.setIfInBounds_toArray, List.set_cons_zero, List.set_cons_succ]; have HT1 := hide (Rx.new (unhide HR) (unhide HN) (unhide HB1) (unhide HX1)))
      | (go_at_call 117; refine (unhide HU1 W1 (unhide HT1).rd).mono ?_; rintro y W2 ⟨rfl, hr⟩; have HT2 := hide ((unhide HT1).step hr); clear hr HU1)
      | (go_at_call 117; refine (unhide HU2 W2 (unhide HT2).rd).mono ?_; rintro y W3 ⟨rfl, hr⟩; have HT3 := hide ((unhide HT2).step hr); clear hr)
      | (go_at_call 151; refine (unhide HBY W3 (unhide HT3).rd).mono ?_; rintro y W4 ⟨rfl, hr⟩; have HT4 := hide ((unhide HT3).step hr); clear hr)
      | (go_at_call 149; refine (unhide HFL W4 (unhide HT4).rd).mono ?_; rintro y V4 ⟨rfl, hr⟩; have HQ4 := hide ((unhide HT4).step hr); clear hr)
      | (go_at_call 152; refine (unhide HTX V4 (unhide HQ4).rd).mono ?_; rintro y W5 ⟨rfl, hr⟩; have HT5 := hide ((unhide HQ4).step hr); clear hr)
      | ((with_reducible refine wpList_store_sib (by rfl) (.tmp 2) (.tmp 30) (by rfl) N ⟨xa, xc, false, tv⟩ (by with_unfolding_all rfl) (by with_unfolding_all rfl) (unhide HT5).box ?_); intro W6 HX6 HE6; simp only [Act.put])
      | fail)
    refine bodyPost_ret (results_cell rfl _ _ N 69 #[.int .u32 (xa : Int), .int .u64 (xc : Int), .bool false, .string tv] (0, 0) _ rfl (unhide HX6) sibUnd rfl sibInfo) rfl ?_
    exact ⟨rfl, by rw [unhide HE6]; exact (unhide HT5).row _⟩
end Go.Proofs.Ytkcbljmjhlnjpaa
