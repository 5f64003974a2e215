/- DiskSynced: words. -/
import Derived.Test.YtfdibmbffmgikaaKx
namespace Go.Proofs.Ytfdibmbffmgikaa
open Go.RowKit Go.Lib

def wordAt (l : List UInt8) (a : Nat) : List UInt8 := (l.drop a).take 8
theorem sl_word (l : List UInt8) (a b : Nat) (hb : b = a + 8) (h : b ≤ l.length) (W : World) : (Instr.sliceAt 9 (.string ⟨l.toArray⟩) (some (.int .i64 (a : Int))) (some (.int .i64 (b : Int))) none).run Try.prog W = .ok (.string ⟨(wordAt l a).toArray⟩) W := by
  subst hb
  have e : (⟨l.toArray⟩ : ByteArray).extract a (a + 8) = ⟨(wordAt l a).toArray⟩ := by
    apply ByteArray.ext
    rw [ByteArray.data_extract]
    simp [wordAt]
  rw [run_sliceAt_string W 9 _ _ _ _ Try.underlying9, run_slice_string W 9 _ .i64 .i64 _ _ Try.underlying9 (by omega) (by omega) (by rw [size_mk]; omega), Int.toNat_natCast, Int.toNat_natCast, e]
/-- the law's list of writes, as it lies -/
def Cs (u : World) (ao : Option Addr) (p : List (Nat × List UInt8)) : Prop := 0 < p.length → ∃ g, ao = some ⟨g, 0, none⟩ ∧ ∀ (i : Nat) (hi : i < p.length), u.cell? ⟨g, i * 2, none⟩ = some (.int .i64 (p[i].1 : Int)) ∧ u.cell? ⟨g, i * 2 + 1, none⟩ = some (str p[i].2)
theorem own_cs {u : World} {B : Nat} {v : Value} {p : List (Nat × List UInt8)} (h : u.ownsRow B 58 2 v p.length (cCells p)) : ∃ ao c, v = .slice ao p.length c ∧ Cs u ao p := by
  rcases h.2 with ⟨h1, h2⟩ | ⟨g, cap, cur, hv, h1, h2, h3, h4, h5, h6⟩
  · exact ⟨none, 0, by rw [h1, h2], fun h0 => by omega⟩
  · refine ⟨_, _, hv, fun _ => ⟨g, rfl, fun i hi => ?_⟩⟩
    obtain ⟨e1, e2⟩ := cCells_at p i hi
    rw [← h6, List.getElem?_take_of_lt (by omega), Array.getElem?_toList] at e1 e2
    exact ⟨by rw [cell_of_row u g _ _ _ _ h2]; exact e1, by rw [cell_of_row u g _ _ _ _ h2]; exact e2⟩
theorem ixCells (g n c i : Nat) (hi : i < n) (W : World) : (Instr.indexAt 55 (.slice (some ⟨g, 0, none⟩) n c) (.int .i64 (i : Int))).run Try.prog W = .ok (.pointer (some ⟨g, i * 2, none⟩)) W := by
  have he : Try.prog.elem 55 = 58 := by kernel_rfl
  rw [run_indexAt_slice W 55 _ _ _ _ _ (by rw [he]; kernel_rfl), if_pos ⟨by omega, by omega⟩, he, size_of (n := 2) (by kernel_rfl)]
  simp only [Result.andThen_ok, Int.toNat_natCast, Addr.add_mid, Nat.zero_add]
theorem ba_ne {a b : List UInt8} (h : a ≠ b) : ((⟨a.toArray⟩ : ByteArray).toList == (⟨b.toArray⟩ : ByteArray).toList) = false := by
  rw [ByteArray.toList_eq, ByteArray.toList_eq]
  simpa using h
def WordsOk (is was : List UInt8) (p : List (Nat × List UInt8)) (n : Nat) : Prop := ∀ j, j < 128 → wordAt is (8 * j) = wordAt was (8 * j) ∨ ∃ q, ∃ hq : q < p.length, p[q].1 = n ∧ wordAt p[q].2 (8 * j) = wordAt is (8 * j)
set_option maxRecDepth 100000 in
set_option maxHeartbeats 4000000 in
theorem lWords (is was : List UInt8) (p : List (Nat × List UInt8)) (n : Nat) (ao : Option Addr) (c : Nat) (u : World) (h1 : is.length = 1024) (h2 : was.length = 1024) (h3 : ∀ q ∈ p, q.2.length = 1024) (hp : p.length ≤ 2000000) (hc : Cs u ao p) (hw : WordsOk is was p n) :
    Calls Try.prog 30 #[.string ⟨is.toArray⟩, .string ⟨was.toArray⟩, .slice ao p.length c, .int .i64 (n : Int)] u fun e u' => e = .returned (.bool true) ∧ u' = u := by
  have HP := hide (And.intro h1 (And.intro h2 h3))
  have HC := hide hc
  have HW := hide hw
  obtain ⟨m, hm⟩ : ∃ m, m = p.length := ⟨_, rfl⟩
  have HM := hide hm
  have hmi : (m : Int) ≤ 2000000 := by omega
  rw [← hm]
  clear h1 h2 h3 hc hw hp hm
  have HI1 := hide (fun a b hb hl => sl_word is a b hb (by rw [(unhide HP).1]; exact hl))
  have HI2 := hide (fun a b hb hl => sl_word was a b hb (by rw [(unhide HP).2.1]; exact hl))
  generalize hIS : (⟨is.toArray⟩ : ByteArray) = IS at *
  generalize hWS : (⟨was.toArray⟩ : ByteArray) = WS at *
  clear hIS hWS
  go_enter Try.func30, Try.ntmps30
  go_wp2
  go_loop [9] (fun vi => ∃ j : Nat, j ≤ 128 ∧ vi = .int .i64 ((8 * j : Nat) : Int)) (fun vi => 1024 - (intOf vi).toNat)
  case atStart => exact ⟨0, Nat.zero_le _, rfl⟩
  case round =>
    obtain ⟨j, hj, rfl⟩ := hrel
    obtain ⟨a, ha⟩ : ∃ a, a = 8 * j := ⟨_, rfl⟩
    rw [← ha]
    by_cases hlt : j < 128
    · have hai : (a : Int) < 1024 := by omega
      obtain ⟨b, hb⟩ : ∃ b, b = a + 8 := ⟨_, rfl⟩
      have hw8 : (a : Int) + 8 = (b : Int) := by omega
      have hwb : wrap64 ((a : Int) + 8) = (b : Int) := by rw [hw8]; unfold wrap64; omega
      have hs1 := unhide HI1 a b hb (by omega)
      have hs2 := unhide HI2 a b hb (by omega)
      have hor := unhide HW j hlt
      rw [← ha] at hor
      have HOR := hide hor
      have HS3 : Hid (∀ (i : Nat) (hi : i < p.length) W, (Instr.sliceAt 9 (.string ⟨(p[i].2).toArray⟩) (some (.int .i64 (a : Int))) (some (.int .i64 (b : Int))) none).run Try.prog W = .ok (.string ⟨(wordAt p[i].2 a).toArray⟩) W) := fun i hi W => sl_word p[i].2 a b hb (by rw [(unhide HP).2.2 _ (List.getElem_mem hi)]; omega) W
      clear hor
      have HNE := hide (fun h => ba_ne (a := wordAt is a) (b := wordAt was a) h)
      have HEE : Hid (wordAt is a = wordAt was a → (⟨(wordAt was a).toArray⟩ : ByteArray) = ⟨(wordAt is a).toArray⟩) := fun h => by rw [h]
      have HNQ : Hid (∀ (i : Nat) (hi : i < p.length), wordAt p[i].2 a ≠ wordAt is a → ((⟨(wordAt p[i].2 a).toArray⟩ : ByteArray).toList == (⟨(wordAt is a).toArray⟩ : ByteArray).toList) = false) := fun i hi h => ba_ne h
      have HEQ : Hid (∀ (i : Nat) (hi : i < p.length), wordAt p[i].2 a = wordAt is a → (⟨(wordAt p[i].2 a).toArray⟩ : ByteArray) = ⟨(wordAt is a).toArray⟩) := fun i hi h => by rw [h]
      obtain ⟨s0, hs0⟩ : ∃ s0 : Bool, ((⟨(wordAt is a).toArray⟩ : ByteArray).toList == (⟨(wordAt was a).toArray⟩ : ByteArray).toList) = s0 := ⟨_, rfl⟩
      have HS0 : Hid (s0 = false → ∃ q, 0 ≤ q ∧ ∃ hq : q < p.length, p[q].1 = n ∧ wordAt p[q].2 a = wordAt is a) := fun h => by
        rcases unhide HOR with h' | ⟨q, hq, h1, h2⟩
        · rw [← hs0, h'] at h; simp at h
        · exact ⟨q, Nat.zero_le _, hq, h1, h2⟩
      have HJ : Hid (a = 8 * j) := ha
      have HBA : Hid (b = a + 8) := hb
      clear HOR HNE HEE ha hb
      generalize (⟨(wordAt was a).toArray⟩ : ByteArray) = WW at *
      generalize (⟨(wordAt is a).toArray⟩ : ByteArray) = WI at *
      go_wp2
      clear hs0 hs2
      go_loop [11, 12] (fun vs vi => ∃ (i : Nat) (s : Bool), i ≤ m ∧ vi = .int .i64 i ∧ vs = .bool s ∧ Hid (s = false → ∃ q, i ≤ q ∧ ∃ hq : q < p.length, p[q].1 = n ∧ wordAt p[q].2 a = wordAt is a)) (fun _ vi => m - (intOf vi).toNat)
      case atStart => exact ⟨0, s0, Nat.zero_le _, rfl, rfl, HS0⟩
      case round =>
        clear HS0
        obtain ⟨i, s, hi, rfl, rfl, HQ⟩ := hrel
        cases s
        · obtain ⟨q, hq1, hq2, hq3, hq4⟩ := unhide HQ rfl
          have hlt : i < m := by have := unhide HM; omega
          have hil : i < p.length := by rw [← unhide HM]; exact hlt
          have hii : (i : Int) < (m : Int) := by omega
          obtain ⟨g, hao, hcs⟩ := unhide HC (by omega)
          obtain ⟨cN, cS⟩ := hcs i hil
          subst hao
          have hix := ixCells g m c i hlt
          by_cases hn : p[i].1 = n
          · have hs3 := unhide HS3 i hil
            have cS' : u.cell? ⟨g, i * 2 + 1, none⟩ = some (.string ⟨(p[i].2).toArray⟩) := cS
            rw [hn] at cN
            by_cases he : wordAt p[i].2 a = wordAt is a
            · rw [unhide HEQ i hil he] at hs3
              generalize (⟨(p[i].2).toArray⟩ : ByteArray) = SQ at *
              clear hcs hq1 hq2 hq3 hq4 cS hn he
              go_wp2
              go_round
              case rel => exact ⟨i + 1, true, by omega, by go_num, rfl, fun h => by cases h⟩
              case measure => simp [intOf]; omega
            · have hne := unhide HNQ i hil he
              generalize (⟨(p[i].2).toArray⟩ : ByteArray) = SQ at *
              generalize (⟨(wordAt p[i].2 a).toArray⟩ : ByteArray) = WQ at *
              have HQN : Hid (∃ q, i + 1 ≤ q ∧ ∃ hq : q < p.length, p[q].1 = n ∧ wordAt p[q].2 a = wordAt is a) := ⟨q, by
                rcases Nat.eq_or_lt_of_le hq1 with e | e
                · subst e; exact absurd hq4 he
                · exact e, hq2, hq3, hq4⟩
              clear hcs hq1 hq2 hq3 hq4 cS hn he
              go_wp2
              go_round
              case rel => exact ⟨i + 1, false, by omega, by go_num, rfl, fun _ => unhide HQN⟩
              case measure => simp [intOf]; omega
          · have hni : ¬ (p[i].1 : Int) = (n : Int) := by omega
            have HQN : Hid (∃ q, i + 1 ≤ q ∧ ∃ hq : q < p.length, p[q].1 = n ∧ wordAt p[q].2 a = wordAt is a) := ⟨q, by
              rcases Nat.eq_or_lt_of_le hq1 with e | e
              · subst e; exact absurd hq3 hn
              · exact e, hq2, hq3, hq4⟩
            generalize p[i].1 = pn at *
            clear hcs hq1 hq2 hq3 hq4 cS hn
            go_wp2
            go_round
            case rel => exact ⟨i + 1, false, by omega, by go_num, rfl, fun _ => unhide HQN⟩
            case measure => simp [intOf]; omega
        · by_cases hlt2 : i < m
          · have hii : (i : Int) < (m : Int) := by omega
            go_wp2
            go_round
            case rel => exact ⟨j + 1, by omega, by have := unhide HJ; have := unhide HBA; congr 1; omega⟩
            case measure => simp [intOf]; have := unhide HJ; have := unhide HBA; omega
          · have hii : ¬ (i : Int) < (m : Int) := by omega
            go_wp2
            go_round
            case rel => exact ⟨j + 1, by omega, by have := unhide HJ; have := unhide HBA; congr 1; omega⟩
            case measure => simp [intOf]; have := unhide HJ; have := unhide HBA; omega
    · have hjj : j = 128 := by omega
      subst hjj
      subst ha
      go_wp2
      go_ret
      exact ⟨rfl, rfl⟩
end Go.Proofs.Ytfdibmbffmgikaa
