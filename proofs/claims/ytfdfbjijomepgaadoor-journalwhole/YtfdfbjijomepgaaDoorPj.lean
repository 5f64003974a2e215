/- The page: what Encode tells, Decode takes. -/
import Derived.Test.YtfdfbjijomepgaaDoorPk
namespace Go.Proofs.YtfdfbjijomepgaaDoor
open Go.RowKit Go.Lib

theorem ext_list (l : List UInt8) (a b : Nat) : ((⟨l.toArray⟩ : ByteArray).extract a b).data.toList = (l.take b).drop a := by
  rw [ByteArray.data_extract]
  simp [List.extract, List.drop_take]
theorem seg (x y z : List UInt8) (a b : Nat) (ha : x.length = a) (hb : a + y.length = b) : ((x ++ (y ++ z)).take b).drop a = y := by
  subst ha hb
  rw [List.take_append, List.take_of_length_le (by omega), List.drop_append_of_le_length (by omega), List.drop_of_length_le (by omega), List.nil_append, show x.length + y.length - x.length = y.length from by omega, List.take_append_of_le_length (by omega), List.take_of_length_le (by omega)]
theorem numB_byte (b : UInt8) : numB [b] = b.toNat := by simp [numB]
section
variable (p : Pg)
theorem Pg.enc_eq : p.enc = fixB p.ser 8 ++ ([UInt8.ofNat p.kind] ++ ([0] ++ (fixB p.body.size 2 ++ (fixB p.num 4 ++ (fixB p.sum 4 ++ (p.body.data.toList ++ (zeros (996 - p.body.size) ++ fixB p.ser 8))))))) := by
  rw [Pg.enc, Pg.bytes, Pg.fr]
  simp only [List.append_assoc]
theorem claim_enc (hf : p.Fit) (hs : p.body.size ≤ 996) : claim ⟨p.enc.toArray⟩ = p := by
  have l8 := fixB_length p.ser 8
  have l2 := fixB_length p.body.size 2
  have l4 := fixB_length p.num 4
  have ls := fixB_length p.sum 4
  have hser : numB ((⟨p.enc.toArray⟩ : ByteArray).extract 0 8).data.toList = p.ser := by
    rw [ext_list, p.enc_eq]
    have := seg [] (fixB p.ser 8) ([UInt8.ofNat p.kind] ++ ([0] ++ (fixB p.body.size 2 ++ (fixB p.num 4 ++ (fixB p.sum 4 ++ (p.body.data.toList ++ (zeros (996 - p.body.size) ++ fixB p.ser 8))))))) 0 8 rfl (by simp [l8])
    rw [List.nil_append] at this
    rw [this, numB_fixB]
    exact Nat.mod_eq_of_lt hf.ser
  have hkind : numB ((⟨p.enc.toArray⟩ : ByteArray).extract 8 9).data.toList % 256 = p.kind := by
    rw [ext_list, p.enc_eq]
    rw [seg (fixB p.ser 8) [UInt8.ofNat p.kind] _ 8 9 l8 (by simp), numB_byte]
    have := hf.kind
    simp
    omega
  have hlen : numB ((⟨p.enc.toArray⟩ : ByteArray).extract 10 12).data.toList = p.body.size := by
    rw [ext_list, p.enc_eq]
    have e : fixB p.ser 8 ++ ([UInt8.ofNat p.kind] ++ ([0] ++ (fixB p.body.size 2 ++ (fixB p.num 4 ++ (fixB p.sum 4 ++ (p.body.data.toList ++ (zeros (996 - p.body.size) ++ fixB p.ser 8))))))) = (fixB p.ser 8 ++ [UInt8.ofNat p.kind] ++ [0]) ++ (fixB p.body.size 2 ++ (fixB p.num 4 ++ (fixB p.sum 4 ++ (p.body.data.toList ++ (zeros (996 - p.body.size) ++ fixB p.ser 8))))) := by simp only [List.append_assoc]
    rw [e, seg _ (fixB p.body.size 2) _ 10 12 (by simp [l8]) (by simp [l2]), numB_fixB]
    exact Nat.mod_eq_of_lt (Nat.lt_of_le_of_lt hs (by decide))
  have hnum : numB ((⟨p.enc.toArray⟩ : ByteArray).extract 12 16).data.toList = p.num := by
    rw [ext_list, p.enc_eq]
    have e : fixB p.ser 8 ++ ([UInt8.ofNat p.kind] ++ ([0] ++ (fixB p.body.size 2 ++ (fixB p.num 4 ++ (fixB p.sum 4 ++ (p.body.data.toList ++ (zeros (996 - p.body.size) ++ fixB p.ser 8))))))) = (fixB p.ser 8 ++ [UInt8.ofNat p.kind] ++ [0] ++ fixB p.body.size 2) ++ (fixB p.num 4 ++ (fixB p.sum 4 ++ (p.body.data.toList ++ (zeros (996 - p.body.size) ++ fixB p.ser 8)))) := by simp only [List.append_assoc]
    rw [e, seg _ (fixB p.num 4) _ 12 16 (by simp [l8, l2]) (by simp [l4]), numB_fixB]
    exact Nat.mod_eq_of_lt hf.num
  have hsz : (⟨p.enc.toArray⟩ : ByteArray).size = 1024 := by rw [← size_toList]; exact p.bytes_len hs _
  have hbody : (rawS ⟨p.enc.toArray⟩ 20 0 (p.body.size : Nat)).1 = p.body := by
    rw [rawS, if_neg (by simp), if_neg (by omega), if_neg (by rw [hsz]; omega)]
    have e : fixB p.ser 8 ++ ([UInt8.ofNat p.kind] ++ ([0] ++ (fixB p.body.size 2 ++ (fixB p.num 4 ++ (fixB p.sum 4 ++ (p.body.data.toList ++ (zeros (996 - p.body.size) ++ fixB p.ser 8))))))) = (fixB p.ser 8 ++ [UInt8.ofNat p.kind] ++ [0] ++ fixB p.body.size 2 ++ fixB p.num 4 ++ fixB p.sum 4) ++ (p.body.data.toList ++ (zeros (996 - p.body.size) ++ fixB p.ser 8)) := by simp only [List.append_assoc]
    have h := ext_list p.enc 20 (20 + p.body.size)
    rw [p.enc_eq, e, seg _ p.body.data.toList _ 20 (20 + p.body.size) (by simp [l8, l2, l4, ls]) (by rw [size_toList])] at h
    have h2 := congrArg (fun l => (⟨List.toArray l⟩ : ByteArray)) h
    simp only [Array.toArray_toList] at h2
    rw [p.enc_eq, e, Int.toNat_natCast]
    exact h2
  rw [claim, hser, hkind, hnum, hlen, hbody]
theorem crc0 : Crc.fold (zeros 1024) 4294967295 ≠ 4294967295 := by decide +kernel
theorem Pg.not_blank : p.enc ≠ zeros 1024 := by
  intro h
  have l8 := fixB_length p.ser 8
  have l2 := fixB_length p.body.size 2
  have l4 := fixB_length p.num 4
  have ls := fixB_length p.sum 4
  have hsl : p.sum < 256 ^ 4 := by rw [Pg.sum]; have : (256 : Nat) ^ 4 = 4294967296 := rfl; omega
  have hsum : p.sum = 0 := by
    have h1 : ((p.enc).take 20).drop 16 = fixB p.sum 4 := by
      rw [p.enc_eq]
      have e : fixB p.ser 8 ++ ([UInt8.ofNat p.kind] ++ ([0] ++ (fixB p.body.size 2 ++ (fixB p.num 4 ++ (fixB p.sum 4 ++ (p.body.data.toList ++ (zeros (996 - p.body.size) ++ fixB p.ser 8))))))) = (fixB p.ser 8 ++ [UInt8.ofNat p.kind] ++ [0] ++ fixB p.body.size 2 ++ fixB p.num 4) ++ (fixB p.sum 4 ++ (p.body.data.toList ++ (zeros (996 - p.body.size) ++ fixB p.ser 8))) := by simp only [List.append_assoc]
      rw [e]
      exact seg _ _ _ 16 20 (by simp [l8, l2, l4]) (by simp [ls])
    rw [h] at h1
    have h2 := congrArg numB h1
    rw [numB_fixB, Nat.mod_eq_of_lt hsl] at h2
    rw [← h2]
    have : (List.take 20 (zeros 1024)).drop 16 = zeros 4 := by rw [zeros, List.take_replicate, List.drop_replicate]; rfl
    rw [this]
    rfl
  have hb : p.bytes 0 = zeros 1024 := by
    have := h
    rw [Pg.enc, hsum] at this
    exact this
  have hs := hsum
  rw [Pg.sum, hb] at hs
  have := crc0
  have hlt := Crc.fold_lt (zeros 1024) 4294967295 (by decide)
  have : (2 : Nat) ^ 32 = 4294967296 := rfl
  omega
end
end Go.Proofs.YtfdfbjijomepgaaDoor
