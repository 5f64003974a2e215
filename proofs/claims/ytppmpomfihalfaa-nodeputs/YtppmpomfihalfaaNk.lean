/- The walk of NodeNames. -/
import Derived.Test.YtppmpomfihalfaaNj
namespace Go.Proofs.Ytppmpomfihalfaa
open Go.RowKit

theorem emptyLeaf_ok : Nd.Ok ⟨true, [], [], []⟩ := ⟨⟨rfl, rfl⟩, ⟨fun c hc => (by cases hc), fun c hc => (by cases hc)⟩, ⟨fun i hi => (by simp at hi), fun i hi => (by simp at hi)⟩, by decide⟩
theorem oneKid_ok (g : Nat) (hg : g ≠ 0) : Nd.Ok ⟨false, [], [], [g]⟩ := ⟨⟨fun k hk => (by rw [List.mem_singleton.1 hk]; exact hg), rfl, rfl⟩, ⟨fun c hc => (by cases hc), fun c hc => (by cases hc)⟩, ⟨fun i hi => (by simp at hi), fun i hi => (by simp at hi)⟩, by simp [Nd.size, Nd.szs]⟩
theorem Nd.enc_ok {n : Nd} (h : n.Ok) (hs : n.size ≤ 996) : n.enc = (⟨n.body.toArray⟩, 0) := by
  rw [Nd.enc, if_neg (fun z => z (Nd.check_zero.2 h)), if_neg (by omega)]
theorem enc_none : Nd.enc ⟨true, [], [], []⟩ = (⟨#[1, 0, 0]⟩, 0) := by
  rw [Nd.enc_ok emptyLeaf_ok (by decide)]
  rfl
theorem enc_seven : Nd.enc ⟨false, [], [], [7]⟩ = (⟨#[2, 0, 0, 0, 0, 0, 7]⟩, 0) := by
  rw [Nd.enc_ok (oneKid_ok 7 (by decide)) (by decide)]
  rfl
theorem NdAt.none (w : World) : NdAt w ⟨true, [], [], []⟩ ⟨none, 0, none, 0, none, 0⟩ := ⟨Lies.nil _ _, Lies.nil _ _, Lies.nil _ _, fun k hk => (by cases hk), ⟨by simp, by simp, by simp⟩, fun k hk => (by cases hk), ⟨by simp, by simp, by simp⟩⟩
set_option maxRecDepth 100000 in
set_option maxHeartbeats 2000000 in
theorem names8_walk (w : World) : Calls Try.prog 10 #[] w fun e w' => e = .returned (.bool true) ∧ Below w.heap.size w w' := by
  have H1 : Hid (∀ v : World, Calls Try.prog 17 #[.agg #[.bool true, .slice none 0 0, .slice none 0 0, .slice none 0 0]] v fun e u' => e = .returned (.tuple #[.string ⟨#[1, 0, 0]⟩, .int .i64 0]) ∧ Below v.heap.size v u') := fun v => by
    have h := nEncode _ _ v (NdAt.none v)
    rw [enc_none] at h
    exact h
  have H2 : Hid (∀ (v : World) (g c : Nat), 1 ≤ c → v.cell? ⟨g, 0, none⟩ = some (.int .u32 7) → Calls Try.prog 17 #[.agg #[.bool false, .slice none 0 0, .slice none 0 0, .slice (some ⟨g, 0, none⟩) 1 c]] v fun e u' => e = .returned (.tuple #[.string ⟨#[2, 0, 0, 0, 0, 0, 7]⟩, .int .i64 0]) ∧ Below v.heap.size v u') := fun v g c hc1 hc => by
    have h := nEncode ⟨false, [], [], [7]⟩ ⟨none, 0, none, 0, some ⟨g, 0, none⟩, c⟩ v ⟨Lies.nil _ _, Lies.nil _ _, fun _ => ⟨g, 0, rfl, fun j v hv => by
      cases j with
      | zero => simp [flatG] at hv; rw [← hv]; exact hc
      | succ j => simp [flatG] at hv⟩, fun k hk => (by rw [List.mem_singleton.1 hk]; decide), ⟨by simp, by simp, by simp⟩, fun k hk => (by cases hk), ⟨by simp, by simp, by simpa using hc1⟩⟩
    rw [enc_seven] at h
    exact h
  obtain ⟨B, hB⟩ : ∃ B, B = w.heap.size := ⟨_, rfl⟩
  have HB := hide hB
  rw [← hB]
  clear hB
  go_enter Try.func10, Try.ntmps10
  go_wp2_with fail
  refine (unhide H1 _).mono ?_
  rintro e W1 ⟨rfl, hb1⟩
  rw [← unhide HB] at hb1
  have HW1 := hide hb1
  clear hb1
  go_wp2_with fail
  refine (unhide H2 _ _ _ (by decide) (by simp [go_sem])).mono ?_
  rintro e W2 ⟨rfl, hb2⟩
  have HW2 : Hid (Below B w W2) := by
    have h1 := (unhide HW1).alloc (o := .cells #[.int .u32 7] 50) (by rw [unhide HB]; exact (unhide HW1).size)
    exact h1.trans (hb2.mono (by rw [unhide HB]; exact h1.size))
  clear hb2
  go_wp2
  go_ret
  exact ⟨rfl, unhide HW2⟩
end Go.Proofs.Ytppmpomfihalfaa
