/- Cut out of the texts of elder seats by cut.py and less.py. -/
import Derived.Test.YtopabadnbelegaaQ01
import Derived.WalkKit
import Derived.WalkLawsBesides
import Derived.ProofKit
import Derived.OpenShut
import Derived.Handy
import Derived.ArgAppend
import Derived.Lib.AppendStr
import Derived.Laws.BitsAllLaws
import Derived.Laws.IdiomStrings
import Derived.Laws.DeepStrings4
import Derived.Deep.QuietTactic
import Derived.BigQuiet
import Derived.WalkSmall
import Derived.Lib.IndexBytes
import Derived.Laws.DeepNot64
namespace Go.Proofs.Ytopabadnbelegaa.W
open Go.RowKit Go.Lib
section
variable {P : Program} (w : World)
theorem run_append_own_string' (base : Nat) (t u ty e : TypeId) (i : TypeInfo) (ht : P.underlying t = some (.slice e)) (hu : P.underlying u = some .string) (hi : P.info? e = some i) (hz : i.zero = some (.int .u8 0))
    (hsize : i.size = 1) (hby : i.bytes = 1)
    (v : Value) (n : Nat) (xs : List Value) (hown : w.ownsRow base e 1 v n xs) (s : ByteArray)
    (h63 : n + s.size ≤ maxLen) (hbytes : n + s.size ≤ 140737488355328) (hbase : base ≤ w.heap.size) :
    ∃ v' w', (Builtin.append_ #[t, u] ty #[v, .string s]).run P w = .ok v' w' ∧ w'.ownsRow base e 1 v' (n + s.size) (xs ++ strCells s) ∧ w.grownBy w' v.ownBlock ∧ NewRow w v v' := by
  obtain ⟨v', w', hr, h2, h3, h4⟩ := run_append_own_string (P := P) w base t u ty e i ht hu hi hz hsize hby v n xs hown s h63 hbytes hbase
  refine ⟨v', w', hr, h2, h3, ?_⟩
  have fresh : ∀ {w2 : World}, w2.ownsRow w.heap.size e 1 v' (n + s.size) (xs ++ strCells s) → NewRow w v v' ∨ v' = .slice none 0 0 := by
    intro w2 h
    rcases h.2 with ⟨h, _⟩ | ⟨g, cap, cur, h, hb, _⟩
    · exact .inr h
    · exact .inl (.inr ⟨g, by rw [h]; rfl, hb⟩)
  have bare : v' = .slice none 0 0 → NewRow w v v' := fun h => .inl (by rw [h, (h4.1 h).1])
  rcases hown.2 with ⟨hv, hn⟩ | ⟨g, cap, cur, hv, hb, hg, hnc, hcm, hcs, htake⟩
  · subst hn
    have ho' : w.ownsRow w.heap.size e 1 v 0 xs := ⟨hown.1, .inl ⟨hv, rfl⟩⟩
    obtain ⟨v2, w2, hr', k2, _, _⟩ := run_append_own_string (P := P) w w.heap.size t u ty e i ht hu hi hz hsize hby v 0 xs ho' s h63 hbytes (Nat.le_refl _)
    rw [hr] at hr'
    cases hr'
    exact (fresh k2).elim id bare
  · by_cases hroom : n + s.size ≤ cap
    · have hr' := run_append_room_string (P := P) w t u ty e i ht hu hi hsize g n cap cur hg s hroom (by rw [hcs]; omega)
      rw [← hv, hr] at hr'
      cases hr'
      exact .inl (by rw [hv]; rfl)
    · have hcap : Builtin.nextslicecap (n + s.size) cap * i.bytes ≤ 281474976710656 := by
        rw [hby]
        have := nextslicecap_le (need := n + s.size) (old := cap) (by omega)
        omega
      have hr' := run_append_grow_string (P := P) w t u ty e i (.int .u8 0) ht hu hi hz ⟨g, 0, none⟩ n cap xs (by rw [hsize]; exact hown.1) (hown.cells (by rw [hv]; rfl)) s (by omega) (by simp only [maxLen] at h63; omega) hcap
      rw [← hv, hr] at hr'
      cases hr'
      exact .inr ⟨w.heap.size, rfl, Nat.le_refl _⟩

theorem wpList_put_string {ops : Array Oper} {rest : List Oper} {o : Oper} {a : Act} {Q : Exit → Act → World → Prop} (hgd : o.guard = none) (sl x : Operand) (t u : TypeId)
    (ho : o.op = .call { callee := .builtin .append, args := #[sl, x], argTypes := #[t, u] })
    (base : Nat) (e : TypeId) (i : TypeInfo) (ht : P.underlying t = some (.slice e)) (hu : P.underlying u = some .string) (hi : P.info? e = some i) (hz : i.zero = some (.int .u8 0))
    (hsize : i.size = 1) (hby : i.bytes = 1)
    (v : Value) (n : Nat) (xs : List Value) (hs : a.eval sl = v) (hown : w.ownsRow base e 1 v n xs) (s : ByteArray) (hx : a.eval x = .string s)
    (h63 : n + s.size ≤ maxLen) (hbytes : n + s.size ≤ 140737488355328) (hbase : base ≤ w.heap.size)
    (h : ∀ v' w', w'.ownsRow base e 1 v' (n + s.size) (xs ++ strCells s) → w.grownBy w' v.ownBlock → NewRow w v v' → wpList P ops Q rest (a.put o.dst v') w') : wpList P ops Q (o :: rest) a w := by
  refine wpList_plain hgd fun K hK => ?_
  obtain ⟨v', w', hr, h2, h3, h4⟩ := run_append_own_string' (P := P) w base t u o.type e i ht hu hi hz hsize hby v n xs hown s h63 hbytes hbase
  unfold Oper.wp execOp
  simp only [ho, resolve, invoke, builtin, Sem.run_bind, Sem.run_pure, Result.andThen_ok, List.map_toArray, List.map_cons, List.map_nil, hs, hx, hr]
  exact hK _ _ (h v' w' h2 h3 h4)
end
set_option maxHeartbeats 400000 in
theorem wRaw (a r : Nat) (bs : List UInt8) (s : ByteArray) (w : World) (h : Wr w a r bs) (hl : bs.length + s.size ≤ 140737488355328) :
    Calls Try.prog 45 #[.pointer (some ⟨a, 0, none⟩), .string s] w fun e w' => e = .returned (.tuple #[]) ∧ ∃ r', Put w w' a r r' (bs ++ s.data.toList) := by
  obtain ⟨i0, hi, hz0, hz1, hz2⟩ := info_parts info5
  obtain ⟨x, hc, hf, hown, ao, cap, rfl⟩ := h.cellAt
  have hlt := h.1
  go_enter Try.func45, Try.ntmps45
  go_wp2_with (at_builtin; refine wpList_put_string _ rfl (.tmp 10) (.tmp 11) 81 9 rfl (a + 1) 5 i0 Try.underlying81 Try.underlying9 hi hz0 hz1 hz2 _ _ _ rfl hown s rfl ?c3 ?c4 ?c5 ?_)
  case c3 => unfold maxLen; omega
  case c4 => omega
  case c5 => omega
  intro v' w1 hown' hg hrow
  have hown2 : w1.ownsRow (a + 1) 5 1 v' (bs ++ s.data.toList).length (Bs (bs ++ s.data.toList)) := by
    rw [Bs_append, List.length_append, size_toList]; exact hown'
  have hput := put_of h hc (by rw [List.length_append, size_toList]; exact hl) hown2 hg hrow
  obtain ⟨hc1, hf1⟩ := h.cellGrown hc hg
  obtain ⟨ao', cap', rfl⟩ := owns_shape hown'
  have HP := hide hput
  clear hput hown2 hown' hg hrow hc hf hown
  go_wp2
  go_returns
  exact ⟨rfl, unhide HP⟩

theorem uintB_length (f v : Nat) : 1 ≤ (uintB f v).length ∧ (uintB f v).length ≤ f + 1 := by
  induction f generalizing v with
  | zero => simp [uintB]
  | succ f ih =>
    rw [uintB]
    split
    · simp
    · have := ih (v / 128); simp; omega
theorem wUintI (a r : Nat) (bs : List UInt8) (x : Int) (w : World) (h : Wr w a r bs) (h0 : 0 ≤ x) (h1 : x < 18446744073709551616) (hl : bs.length + 10 ≤ 140737488355328) :
    Calls Try.prog 44 #[.pointer (some ⟨a, 0, none⟩), .int .u64 x] w fun e w' => e = .returned (.tuple #[]) ∧ ∃ r', Put w w' a r r' (bs ++ uintB 9 x.toNat) := by
  obtain ⟨X, rfl⟩ := Int.eq_ofNat_of_zero_le h0
  exact wUint a r bs X w h (by omega) hl
theorem wText (a r : Nat) (bs : List UInt8) (s : ByteArray) (w : World) (h : Wr w a r bs) (hl : bs.length + s.size + 10 ≤ 140737488355328) :
    Calls Try.prog 33 #[.pointer (some ⟨a, 0, none⟩), .string s] w fun e w' => e = .returned (.tuple #[]) ∧ ∃ r', Put w w' a r r' (bs ++ (uintB 9 s.size ++ s.data.toList)) := by
  have H := hide h
  clear h
  go_enter Try.func33, Try.ntmps33
  go_wp2_with fail
  refine (wUintI a r bs _ _ (unhide H) (by omega) (by omega) (by omega)).mono ?_
  rintro e w1 ⟨rfl, hp⟩
  obtain ⟨r1, hp⟩ := hp
  have H1 := hide hp
  clear hp
  go_wp2_with fail
  refine (wRaw a r1 _ s _ (unhide H1).1 ?_).mono ?_
  · have := (uintB_length 9 (s.size : Int).toNat).2; rw [List.length_append]; omega
  rintro e w2 ⟨rfl, hp⟩
  have H2 := hide hp
  clear hp
  go_wp2
  go_returns
  obtain ⟨r2, hp⟩ := unhide H2
  rw [List.append_assoc] at hp
  exact ⟨rfl, r2, (unhide H1).trans hp⟩
/-- what Raw takes -/
def rawS (s : ByteArray) (p : Nat) (e n : Int) : ByteArray × Nat × Int :=
  if e ≠ 0 then (⟨#[]⟩, p, e) else if n < 0 then (⟨#[]⟩, p, 1) else if (s.size : Int) - p < n then (⟨#[]⟩, p, 10) else (s.extract p (p + n.toNat), p + n.toNat, 0)
theorem rRaw (a : Nat) (s : ByteArray) (p : Nat) (e n : Int) (w : World) (h : Rd w a s p e) :
    Calls Try.prog 68 #[.pointer (some ⟨a, 0, none⟩), .int .i64 n] w fun y w' => y = .returned (.string (rawS s p e n).1) ∧ Rt w w' a s (rawS s p e n).2.1 (rawS s p e n).2.2 := by
  have H := hide h
  have hle := h.le
  have hmx := h.max
  by_cases he : e = 0
  · subst he
    by_cases hn : n < 0
    · have hr : rawS s p 0 n = (⟨#[]⟩, p, 1) := by unfold rawS; rw [if_neg (by simp), if_pos hn]
      rw [hr]
      clear hr h
      go_enter Try.func68, Try.ntmps68
      go_wp2_with fail
      refine (rStop0 a s p _ (unhide H)).mono ?_
      rintro x w1 ⟨rfl, rfl⟩
      go_wp2_with fail
      refine (rFail0 a s p 1 _ (unhide H)).mono ?_
      rintro x w1 ⟨rfl, hp⟩
      have HP := hide hp
      clear hp
      go_wp2
      go_ret
      exact ⟨rfl, unhide HP⟩
    · by_cases hl : (s.size : Int) - p < n
      · have hr : rawS s p 0 n = (⟨#[]⟩, p, 10) := by unfold rawS; rw [if_neg (by simp), if_neg hn, if_pos hl]
        rw [hr]
        clear hr h
        go_enter Try.func68, Try.ntmps68
        go_wp2_with fail
        refine (rStop0 a s p _ (unhide H)).mono ?_
        rintro x w1 ⟨rfl, rfl⟩
        go_wp2_with fail
        refine (rLeft a s p 0 _ (unhide H)).mono ?_
        rintro x w1 ⟨rfl, k, rfl⟩
        go_wp2_with fail
        refine (rFail0 a s p 10 _ ((unhide H).drewN k)).mono ?_
        rintro x w1 ⟨rfl, hp⟩
        have HP := hide hp
        clear hp
        go_wp2
        go_ret
        exact ⟨rfl, (unhide HP).1, ((Upd.refl _ _ _).drewN k).trans (unhide HP).2 (.inl rfl)⟩
      · obtain ⟨m, rfl⟩ := Int.eq_ofNat_of_zero_le (by omega : 0 ≤ n)
        have hr : rawS s p 0 m = (s.extract p (p + m), p + m, 0) := by unfold rawS; rw [if_neg (by simp), if_neg hn, if_neg hl]; rfl
        rw [hr]
        clear hr
        obtain ⟨h1, h2, h3, c0, c1, c2, f1, f2⟩ := h
        clear c2 f2
        have hpm : (p : Int) + m ≤ s.size := by omega
        go_enter Try.func68, Try.ntmps68
        go_wp2_with fail
        refine (rStop0 a s p _ (unhide H)).mono ?_
        rintro x w1 ⟨rfl, rfl⟩
        go_wp2_with fail
        refine (rLeft a s p 0 _ (unhide H)).mono ?_
        rintro x w1 ⟨rfl, k, rfl⟩
        go_wp2
        go_quiet (fail)
        go_wp2
        go_ret
        have h' := ((unhide H).drewN (k + nq)).setAt (p + m) (by omega)
        rw [Int.natCast_add] at h'
        exact ⟨rfl, h', ((Upd.refl _ _ _).drewN _).setCell _ _⟩
  · have hr : rawS s p e n = (⟨#[]⟩, p, e) := by unfold rawS; rw [if_pos he]
    rw [hr]
    clear hr h
    have HE := hide he
    clear he
    go_enter Try.func68, Try.ntmps68
    go_wp2_with fail
    refine (rStop1 a s p e _ (unhide H) (unhide HE)).mono ?_
    rintro x w1 ⟨rfl, rfl⟩
    go_wp2
    go_ret
    exact ⟨rfl, Rt.refl (unhide H)⟩
/-- the number that bytes are, the highest first -/
def numB (l : List UInt8) : Nat := l.foldl (fun v b => v * 256 + b.toNat) 0
theorem numB_snoc (l : List UInt8) (b : UInt8) : numB (l ++ [b]) = numB l * 256 + b.toNat := by simp [numB]
theorem numB_acc (l : List UInt8) (v : Nat) : l.foldl (fun v b => v * 256 + b.toNat) v < (v + 1) * 256 ^ l.length := by
  induction l generalizing v with
  | nil => simp
  | cons b l ih =>
    rw [List.foldl_cons, List.length_cons, Nat.pow_succ, Nat.mul_comm (256 ^ l.length) 256, ← Nat.mul_assoc]
    refine Nat.lt_of_lt_of_le (ih _) (Nat.mul_le_mul_right _ ?_)
    have := b.toNat_lt
    omega
theorem numB_lt (l : List UInt8) : numB l < 256 ^ l.length := by
  have := numB_acc l 0
  simpa [numB] using this
theorem or_byte (v : Nat) (b : UInt8) (hv : v < 72057594037927936) : bits .or .u64 ((v : Int) * 256) (IntKind.u64.wrap (b.toNat : Int)) = ((v * 256 + b.toNat : Nat) : Int) := by
  have hb := b.toNat_lt
  have e : IntKind.u64.wrap (b.toNat : Int) = ((b.toNat : Nat) : Int) := by rw [IntKind.wrap_u64]; omega
  have e2 : ((v : Int) * 256) = ((v * 256 : Nat) : Int) := by omega
  rw [e, e2, u64_or_nat _ _ (by omega) (by omega)]
  congr 1
  have := Nat.two_pow_add_eq_or_of_lt (i := 8) (b := b.toNat) hb v
  rw [Nat.mul_comm v 256]
  exact this.symm
theorem take_snoc (s : ByteArray) (k : Nat) (h : k < s.size) : s.data.toList.take (k + 1) = s.data.toList.take k ++ [s[k]] := by
  rw [List.take_succ_eq_append_getElem (by simpa using h)]; rfl
/-- the value that Fixed answers -/
def fixS (s : ByteArray) (p : Nat) (e n : Int) : Nat × Nat × Int :=
  if n < 1 ∨ 8 < n then (0, p, failE e 1) else (numB (rawS s p e n).1.data.toList, (rawS s p e n).2.1, (rawS s p e n).2.2)
theorem rawS_size (s : ByteArray) (p : Nat) (e n : Int) : ((rawS s p e n).1.size : Int) ≤ max n 0 := by
  unfold rawS
  split
  · simp [ByteArray.size]; omega
  · split
    · simp [ByteArray.size]; omega
    · split
      · simp [ByteArray.size]; omega
      · simp; omega
set_option maxRecDepth 100000 in
set_option maxHeartbeats 400000 in
theorem rFixed (a : Nat) (s : ByteArray) (p : Nat) (e n : Int) (w : World) (h : Rd w a s p e) :
    Calls Try.prog 48 #[.pointer (some ⟨a, 0, none⟩), .int .i64 n] w fun y w' => y = .returned (.int .u64 (fixS s p e n).1) ∧ Rt w w' a s (fixS s p e n).2.1 (fixS s p e n).2.2 := by
  have H := hide h
  have hle := h.le
  clear h
  by_cases hn1 : n < 1
  · have hr : fixS s p e n = (0, p, failE e 1) := if_pos (.inl hn1)
    rw [hr]
    clear hr
    go_enter Try.func48, Try.ntmps48
    go_wp2_with fail
    refine (rFail a s p e 1 _ (unhide H)).mono ?_
    rintro x w1 ⟨rfl, hp⟩
    have HP := hide hp
    clear hp
    go_wp2
    go_ret
    exact ⟨rfl, unhide HP⟩
  · by_cases hn8 : 8 < n
    · have hr : fixS s p e n = (0, p, failE e 1) := if_pos (.inr hn8)
      rw [hr]
      clear hr
      go_enter Try.func48, Try.ntmps48
      go_wp2_with fail
      refine (rFail a s p e 1 _ (unhide H)).mono ?_
      rintro x w1 ⟨rfl, hp⟩
      have HP := hide hp
      clear hp
      go_wp2
      go_ret
      exact ⟨rfl, unhide HP⟩
    · have hr : fixS s p e n = (numB (rawS s p e n).1.data.toList, (rawS s p e n).2.1, (rawS s p e n).2.2) := if_neg (by omega)
      have hsz := rawS_size s p e n
      rw [hr]
      clear hr
      have hraw := rRaw a s p e n w (unhide H)
      generalize rawS s p e n = q at hraw hsz ⊢
      obtain ⟨t, p', e'⟩ := q
      simp only at hraw hsz ⊢
      have ht : t.size ≤ 8 := by omega
      have HR := hide hraw
      clear hraw hsz
      go_enter Try.func48, Try.ntmps48
      go_wp2_with fail
      refine (unhide HR).mono ?_
      rintro x w1 ⟨rfl, hp⟩
      have HP := hide hp
      clear hp
      go_wp2
      go_loop [6, 21] (fun v i => ∃ k : Nat, k ≤ t.size ∧ i = .int .i64 k ∧ v = .int .u64 (numB (t.data.toList.take k))) (fun _ i => t.size - (RowKit.intOf i).toNat)
      case atStart => exact ⟨0, Nat.zero_le _, rfl, rfl⟩
      case round =>
        obtain ⟨k, hk, rfl, rfl⟩ := hrel
        have hb := numB_lt (t.data.toList.take k)
        by_cases hlt : k < t.size
        · have hts := take_snoc t k hlt
          have hsn := numB_snoc (t.data.toList.take k) t[k]
          have HS : Hid (numB (t.data.toList.take (k + 1)) = numB (t.data.toList.take k) * 256 + t[k].toNat) := by rw [hts]; exact hsn
          have hlk : numB (t.data.toList.take k) < 72057594037927936 := by
            rw [List.length_take, size_toList, Nat.min_eq_left (by omega)] at hb
            have : 256 ^ k ≤ 256 ^ 7 := Nat.pow_le_pow_right (by decide) (by omega)
            omega
          clear hts hsn hb
          generalize hv : numB (t.data.toList.take k) = v at *
          have HV := hide hv
          clear hv
          go_wp2
          go_round
          case rel => exact ⟨k + 1, by omega, by go_num, by rw [or_byte v _ hlk, unhide HS]⟩
          case measure => simp [RowKit.intOf]; omega
        · have hkk : k = t.size := by omega
          have e : numB (t.data.toList.take k) = numB t.data.toList := by rw [List.take_of_length_le (by rw [size_toList]; omega)]
          have E := hide e
          clear e hb hkk
          go_wp2
          go_ret
          rw [unhide E]
          exact ⟨rfl, unhide HP⟩

theorem uintS_le (s : ByteArray) (p : Nat) (e : Int) (most : Nat) : (uintS s p e most).1 ≤ most := by
  unfold uintS
  split
  · simp
  · split
    · simp
    · split
      · simp
      · simp; omega
theorem uintS_pos (s : ByteArray) (p : Nat) (e : Int) (most : Nat) (h : p ≤ s.size) : (uintS s p e most).2.1 ≤ s.size ∧ p ≤ (uintS s p e most).2.1 := by
  have hu := dg_used (s.data.toList.drop p) 0 0
  rw [List.length_drop, size_toList] at hu
  unfold uintS
  split
  · simp [h]
  · split
    · simp [h]
    · split
      · simp [h]
      · simp; omega
/-- what Text takes -/
def textS (s : ByteArray) (p : Nat) (e most : Int) : ByteArray × Nat × Int :=
  if most < 0 then (⟨#[]⟩, p, failE e 1)
  else if (rawS s (uintS s p e most.toNat).2.1 (uintS s p e most.toNat).2.2 (uintS s p e most.toNat).1).2.2 ≠ 0
    then (⟨#[]⟩, p, (rawS s (uintS s p e most.toNat).2.1 (uintS s p e most.toNat).2.2 (uintS s p e most.toNat).1).2.2)
    else rawS s (uintS s p e most.toNat).2.1 (uintS s p e most.toNat).2.2 (uintS s p e most.toNat).1
theorem rawS_bad (s : ByteArray) (p : Nat) (e n : Int) (h : (rawS s p e n).2.2 ≠ 0) : (rawS s p e n).1 = ⟨#[]⟩ := by
  unfold rawS at h ⊢
  split
  · rfl
  · split
    · rfl
    · split
      · rfl
      · rename_i h1 h2 h3
        rw [if_neg h1, if_neg h2, if_neg h3] at h
        exact absurd rfl h
end Go.Proofs.Ytopabadnbelegaa.W
