/- Tokens: what the Once carries out: the reason laid, the channel closed. -/
import Derived.Test.YtajbkgcgmkkpiaaCnc
import Derived.RegionTactic
import Derived.RegionCalls
import Derived.Defers
namespace Go.Proofs.Ytajbkgcgmkkpiaa.C
open Go.RowKit Go.Lib Go.MuLone Go.Conc
set_option maxRecDepth 100000 in
set_option maxHeartbeats 2000000 in
theorem kClo (d y x kb c : Nat) (v0 v5 v6 v7 : Value) (why : Int) (w : World) (hd : w.cell? ⟨d, 0, none⟩ = some v0) (hy : w.cell? ⟨y, 0, none⟩ = some (.int .i64 why)) (hx : w.cell? ⟨x, 0, none⟩ = some (.pointer (some ⟨kb, 0, none⟩)))
    (h1 : w.cell? ⟨kb, 1, none⟩ = some (.chan (some c))) (h5 : w.cell? ⟨kb, 5, none⟩ = some v5) (h6 : w.cell? ⟨kb, 6, none⟩ = some v6) (h7 : w.cell? ⟨kb, 7, none⟩ = some v7)
    (hc : w.heap[c]? = some (.chan 0 #[] false 0 0 false)) (fd : w.frozen? ⟨d, 0, none⟩ = false) (fk : ∀ j, w.frozen? ⟨kb, j, none⟩ = false)
    (n1 : ¬ d = y) (n2 : ¬ d = x) (n3 : ¬ d = kb) (n4 : ¬ kb = y) (n5 : ¬ kb = x) :
    Calls Try.prog 65 #[.pointer (some ⟨d, 0, none⟩), .pointer (some ⟨y, 0, none⟩), .pointer (some ⟨x, 0, none⟩)] w fun e w' => e = .returned (.tuple #[]) ∧
      w' = ((((((w.setCell ⟨d, 0, none⟩ (.bool true)).setCell ⟨kb, 5, none⟩ (.int .i64 why)).setCell ⟨kb, 6, none⟩ (.pointer none)).setCell ⟨kb, 7, none⟩ (.slice none 0 0)).drew).setChan c 0 #[] true 0 0 false) := by
  have HC := hide hc
  clear hc
  have hcc : ((((w.setCell ⟨d, 0, none⟩ (.bool true)).setCell ⟨kb, 5, none⟩ (.int .i64 why)).setCell ⟨kb, 6, none⟩ (.pointer none)).setCell ⟨kb, 7, none⟩ (.slice none 0 0)).drew.heap[c]? = some (.chan 0 #[] false 0 0 false) := by
    have q : ∀ (w : World) (g k : Nat) (v : Value), w.heap[c]? = some (.chan 0 #[] false 0 0 false) → (w.setCell ⟨g, k, none⟩ v).heap[c]? = some (.chan 0 #[] false 0 0 false) := fun w g k v h => by
      simp only [World.setCell, Array.getElem?_modify]
      by_cases e : g = c
      · rw [if_pos e, h]; rfl
      · rw [if_neg e, h]
    exact q _ _ _ _ (q _ _ _ _ (q _ _ _ _ (q _ _ _ _ (unhide HC))))
  have hcl := fun ats ty => run_close_open (P := Try.prog) ats ty hcc
  clear hcc
  go_enter Try.func65, Try.ntmps65
  go_wp2
  go_region
  go_wp2
  go_end0
  exact ⟨rfl, rfl⟩
end Go.Proofs.Ytajbkgcgmkkpiaa.C
