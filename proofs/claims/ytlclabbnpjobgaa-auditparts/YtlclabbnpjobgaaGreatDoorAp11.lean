/- The document's schedule of a block (rootcellarref02.words), as a contract. -/
import Derived.Test.YtlclabbnpjobgaaGreatDoorAp10
import Derived.RegionTactic
import Derived.Test.YtlclabbnpjobgaaGreatDoorAp04
namespace Go.Proofs.YtlclabbnpjobgaaGreatDoor
variable {bk ws zs:Lq}
variable {g g':Nat}
variable {w w':World}
set_option maxHeartbeats 1000000
set_option maxRecDepth 20000
open Go.RowKit
def acc (b:Lq) (t:Nat):Nat→Int
 | 0=>0
 | i+1=>acc b t i * 256+b.getD (4 * t+i) 0
def Cs (ws bk:Lq) (c:Int) (m:Bool):Array Value:=(ws.map (Value.int .u32)++bk.map (Value.int .u8)++[Value.int .i64 c,Value.bool m]).toArray
theorem Zol (ws bk:Lq) (c:Int) (m:Bool) (hw:ws.length=8) (hb:bk.length=64):(Cs ws bk c m).size=74:=by simp [Cs,hw,hb]
theorem Yih (ws bk:Lq) (c:Int) (m:Bool):(Cs ws bk c m).all (·.oneCell')=true:=Array.all_eq_true_iff_forall_mem.2 (fun v hv=>by
 simp only [Cs,List.mem_toArray,List.mem_append,List.mem_map] at hv;rcases hv with (⟨z,_,rfl⟩ | ⟨z,_,rfl⟩) | hv
 ·rfl
 ·rfl
 ·simp at hv;rcases hv with rfl | rfl <;> rfl)
def St (w:World) (g:Nat) (ws bk:Lq) (c:Int):Prop:=Blk w g 251 (Cs ws bk c true)∧ws.length=8∧bk.length=64∧Bytes bk
theorem St.made {c:Int} (h:St w g ws bk c):w.cell? ⟨g,73,none⟩=some (.bool true):=by
 obtain ⟨h1,h2,h3,_⟩:=h;rw [h1.cell];simp [Cs,h2,h3]
theorem St.count {c:Int} (h:St w g ws bk c):w.cell? ⟨g,72,none⟩=some (.int .i64 c):=by
 obtain ⟨h1,h2,h3,_⟩:=h;rw [h1.cell];simp [Cs,h2,h3]
theorem St.word {c:Int} (h:St w g ws bk c) (i:Nat) (hi:i<8):w.cell? ⟨g,i,none⟩=some (.int .u32 (ws.getD i 0)):=by
 obtain ⟨h1,h2,h3,_⟩:=h;rw [h1.cell];simp [Cs,List.getElem?_append,h2,List.getD,hi]
theorem St.range {c:Int} (h:St w g ws bk c):w.rangeAt g 8 (B bk).toList:=by
 obtain ⟨h1,h2,h3,_⟩:=h;intro j v hv;rw [h1.cell];have hj:j<64:=by have:=(List.getElem?_eq_some_iff.1 hv).1;simpa [Zaz,h3] using this
 rw [Zaz] at hv;rw [List.getElem?_map,List.getElem?_eq_getElem (by omega)] at hv;simp [Cs,List.getElem?_append,h2,h3,hj];simpa using hv
theorem St.grow {c:Int} (h:St w g ws bk c) (hb:Kb w w'):St w' g ws bk c:=⟨h.1.grow hb,h.2⟩
theorem St.kept {c:Int} (h:St w g ws bk c) (hg:w.grownBy w' (some g')) (hne:g≠g'):St w' g ws bk c:=⟨h.1.kept hg hne,h.2⟩
theorem Ztn:(Tryz.prog.info? 251).map (·.size)=some 74:=by kernel_rfl
theorem Ycr:(Tryz.prog.info? 251).map (fun i=>(i.zero,i.size))=some (some (.agg (Cs (List.replicate 8 0) (List.replicate 64 0) 0 false)),74):=by kernel_rfl
set_option maxRecDepth 10000 in
theorem Yeh (w:World) (hL:Laid w):Kc 178 #[] w fun e w'=>∃g,e=.returned (.pointer (some ⟨g,0,none⟩))∧w.heap.size≤g∧g<w'.heap.size∧St w' g hs (List.replicate 64 0) 0∧Kb w w':=by
 obtain ⟨_,_,h⟩:=hL;have a0:=h 0 (by omega);have a1:=h 1 (by omega);have a2:=h 2 (by omega);have a3:=h 3 (by omega);have a4:=h 4 (by omega);have a5:=h 5 (by omega);have a6:=h 6 (by omega);have a7:=h 7 (by omega);simp only [hs,List.getD_cons_zero,List.getD_cons_succ] at a0 a1 a2 a3 a4 a5 a6 a7;clear h;go_enter Tryz.func178,Tryz.ntmps178
 go_wp2_with (first | (refine Zas _ rfl _ _ rfl (Cs hs (List.replicate 64 0) 0 true) (by kernel_rfl) ?_) | (refine Zd _ rfl _ _ rfl _ rfl ?_;intro w1 g1 hg1 hl1 B1 b1))
 go_ret;exact ⟨g1,rfl,hg1,hl1,⟨B1,rfl,rfl,by intro z hz;rw [List.eq_of_mem_replicate hz];omega⟩,b1⟩
theorem Zwj (g:Nat) (m:Bool) (w:World) (hm:w.cell? ⟨g,73,none⟩=some (.bool m)):
  Kc 198 #[.pointer (some ⟨g,0,none⟩)] w fun e w'=>e=.returned (.bool m)∧w'=w:=by
 cases m
 all_goals
  go_enter Tryz.func198,Tryz.ntmps198
  go_wp2
  go_ret;exact ⟨rfl,rfl⟩
theorem Zmf (g c:Nat) (w:World) (hm:w.cell? ⟨g,72,none⟩=some (.int .i64 (c:Int))):
  Kc 199 #[.pointer (some ⟨g,0,none⟩)] w fun e w'=>e=.returned (.int .i64 ((c % 64:Nat):Int))∧w'=w:=by
 go_enter Tryz.func199,Tryz.ntmps199
 go_wp2
 go_ret;exact ⟨by show Ending.returned (.int .i64 ((c:Int).tmod 64))=_;congr 2,rfl⟩
def marks (n:Nat):Lq:=(List.range 5).map fun k=>200+((n+k:Nat):Int) % 50
theorem Zia (n:Nat):Bytes (marks n):=by
 intro z hz;simp only [marks,List.mem_map] at hz;obtain ⟨k,_,rfl⟩:=hz;omega
theorem Zbh (n:Nat):(marks n).length=5:=by simp [marks]
theorem Zrp (zs:Lq):(List.replicate (zs.length+5) (0:Int)).take 0++zs.take (zs.length+5)++(List.replicate (zs.length+5) (0:Int)).drop (0+min zs.length (zs.length+5))=zs++(marks zs.length).take 0++List.replicate (5-0) 0:=by
 have:min zs.length (zs.length+5)=zs.length:=by omega
 rw [this,List.take_of_length_le (l:=zs) (by omega),List.drop_replicate,List.take_zero,List.take_zero];simp
theorem Zrq (zs:Lq) (k:Nat) (hk:k<5):(zs++(marks zs.length).take k++List.replicate (5-k) (0:Int)).set (zs.length+k) (200+((zs.length+k:Nat):Int) % 50)=zs++(marks zs.length).take (k+1)++List.replicate (5-(k+1)) 0:=by
 have e:List.replicate (5-k) (0:Int)=0::List.replicate (5-(k+1)) 0:=by
  rw [show 5-k=(5-(k+1))+1 by omega];rfl
 have l:(zs++(marks zs.length).take k).length=zs.length+k:=by simp [Zbh];omega
 rw [e,List.set_append_right _ _ (by omega),l,Nat.sub_self,List.set_cons_zero];rw [show (marks zs.length).take (k+1)=(marks zs.length).take k++[200+((zs.length+k:Nat):Int) % 50] by
  rw [List.take_succ_eq_append_getElem (by rw [Zbh];exact hk)];simp [marks]]
 simp
theorem Yae (zs:Lq) (k:Nat) (hk: ¬k<5):zs++(marks zs.length).take k++List.replicate (5-k) 0=zs++marks zs.length:=by
 rw [List.take_of_length_le (by rw [Zbh];omega),show 5-k=0 by omega];simp
theorem Zpn (v:Value) (zs:Lq) (w:World) (h:Reads w v zs) (hl:zs.length≤140737488355328):
  Kc 84 #[v] w fun e w'=>e=.returned (.slice (some ⟨w.heap.size,0,none⟩) zs.length (zs.length+5))∧Row w' w.heap.size (zs++marks zs.length)∧Kb w w'∧w'.heap.size=w.heap.size+1:=by
 have HR:Hid (Reads w v zs):=h;obtain ⟨a,c,rfl,_,_,_,_⟩:=h;go_enter Tryz.func84,Tryz.ntmps84
 go_wp2_with (first | (at_make;refine Zky _ rfl _ _ rfl _ _ _ _ (zs.length+5) (zs.length+5) rfl rfl (by omega) (by omega) (Nat.le_refl _) (by omega) ?_;intro w1 hr1 hb1 hs1) | (refine Zsk _ rfl _ _ rfl w.heap.size 0 (zs.length+5) (zs.length+5) _ zs _ hr1 (HR.out.grow hb1) rfl rfl (by simp) ?_;intro w2 hr2 hg2 hs2))
 have hb2:Kb w w2:=hb1.trans ((Below.refl _ _).grown hg2 (by omega) (by intro k hk;injection hk with hk;exact Nat.le_of_eq hk));rw [Zrp] at hr2;have hr3:Hid (Row w2 w.heap.size (zs++(marks zs.length).take 0++List.replicate (5-0) 0)):=hr2;have hs3:w2.heap.size=w.heap.size+1:=by omega
 clear hr1 hr2 hg2 hb1 hs1 hs2 HR
 go_loopw [4] (fun i wr=>∃k:Nat,k≤5∧i=.int .i64 (zs.length+k:Nat)∧Hid (Row wr w.heap.size (zs++(marks zs.length).take k++List.replicate (5-k) 0))∧Kb w wr∧wr.heap.size=w.heap.size+1) (fun i _=>zs.length+5-(intOf i).toNat)
 case atStart=>exact ⟨0,by omega,by simp,hr3,hb2,hs3⟩
 case round=>
  obtain ⟨k,hk,rfl,hr,hb,hs⟩:=hrel
  by_cases hlt:k<5
  ·have hc:=hr.out.cell (zs.length+k) (by simp [Zbh];omega);have hf:=hr.out.frozen (zs.length+k);go_wp2
   refine ⟨⟨k+1,by omega,by go_num,?_,hb.setCell (Nat.le_refl _) _,by simpa using hs⟩,by simp [intOf];omega⟩;have:=hr.out.set (zs.length+k) (200+((zs.length+k:Nat):Int) % 50);rw [Zrq zs k hlt] at this;show Row _ _ _;simpa using this
  ·have he:=Yae zs k hlt;go_wp2
   go_ret;refine ⟨rfl,?_,hb,hs⟩;rw [← he];exact hr.out
def x5 (z:Int):Int:=bits .xor .u8 z 90
theorem Yil (z:Int) (h:0≤z∧z≤255):x5 z=((z.toNat ^^^ 90:Nat):Int):=by
 unfold x5;rw [u8_xor z 90 h.1 (by omega) (by omega) (by omega)];rfl
theorem Yim (z:Int) (h:0≤z∧z≤255):0≤x5 z∧x5 z≤255:=by
 rw [Yil z h];have:z.toNat ^^^ 90<2 ^ 8:=Nat.xor_lt_two_pow (by omega) (by omega);omega
theorem Bytes.x5 (h:Bytes zs):Bytes (zs.map x5):=by
 intro z hz;obtain ⟨y,hy,rfl⟩:=List.mem_map.1 hz;exact Yim y (h y hy)
theorem Zrm (zs:Lq) (k:Nat) (hk:k<zs.length):((zs.take k).map x5++zs.drop k).set k (x5 (zs.getD k 0))=(zs.take (k+1)).map x5++zs.drop (k+1):=by
 have hd:zs.drop k=zs.getD k 0::zs.drop (k+1):=by
  rw [List.drop_eq_getElem_cons hk];simp [List.getD,hk]
 have hl:((zs.take k).map x5).length=k:=by simp;omega
 rw [hd,List.set_append_right _ _ (by omega),hl,Nat.sub_self,List.set_cons_zero,Zta zs k hk,List.map_append,List.append_assoc];rfl
theorem Zzw (zs:Lq) (k:Nat) (hk:k<zs.length):((zs.take k).map x5++zs.drop k).getD k 0=zs.getD k 0:=by
 have:((zs.take k).map x5).length=k:=by simp;omega
 simp only [List.getD];rw [List.getElem?_append_right (by omega),this,Nat.sub_self];simp
theorem Zzt (g n:Nat) (zs rest:Lq) (w:World) (h:Row w g (zs++rest)) (hl:zs.length≤maxLen):
  Kc 69 #[.slice (some ⟨g,0,none⟩) n zs.length] w fun e w'=>e=.returned (.tuple #[])∧Row w' g (zs.map x5++rest)∧w.grownBy w' (some g)∧w'.heap.size=w.heap.size:=by
 unfold maxLen at hl;have HR:Hid (Row w g (((zs.take 0).map x5++zs.drop 0)++rest)):=by
  show Row _ _ _;simpa using h
 clear h;go_enter Tryz.func69,Tryz.ntmps69
 go_wp2_with fail
 go_loopw [3] (fun i wr=>∃k:Nat,k≤zs.length∧i=.int .i64 k∧Hid (Row wr g (((zs.take k).map x5++zs.drop k)++rest))∧w.grownBy wr (some g)∧wr.heap.size=w.heap.size) (fun i _=>zs.length-(intOf i).toNat)
 case atStart=>exact ⟨0,by omega,by simp,HR,World.grownBy.refl _ _,rfl⟩
 case round=>
  obtain ⟨k,hk,rfl,hr,hb,hs⟩:=hrel
  by_cases hlt:k<zs.length
  ·have hL:((zs.take k).map x5++zs.drop k).length=zs.length:=by simp;omega
   have hc:=hr.out.cell k (by rw [List.length_append];omega);rw [show (((zs.take k).map x5++zs.drop k)++rest).getD k 0=((zs.take k).map x5++zs.drop k).getD k 0 by simp only [List.getD];rw [List.getElem?_append_left (by omega)],Zzw zs k hlt] at hc;have hf:=hr.out.frozen k;have this:=hr.out.set k (x5 (zs.getD k 0));rw [List.set_append_left _ _ (by omega),Zrm zs k hlt] at this;generalize zs.getD k 0=z at hc this;have HT:=Za this;clear this hL;go_wp2
   refine ⟨⟨k+1,by omega,by go_num,?_,Zbe hb (Zao _ _ _ _),by simpa using hs⟩,by simp [intOf];omega⟩;exact HT
  ·go_wp2
   go_end0;refine ⟨rfl,?_,hb,hs⟩;have:=hr.out;rw [List.take_of_length_le (by omega),List.drop_of_length_le (by omega),List.append_nil] at this;exact this
theorem Zzv (w:World):Kc 69 #[.slice none 0 0] w fun e w'=>e=.returned (.tuple #[])∧w'=w:=by
 go_enter Tryz.func69,Tryz.ntmps69
 go_wp2_with fail
 refine wp_loop_rounds 1 ?_;rw [rounds_succ];go_wp2
 go_end0;exact ⟨rfl,rfl⟩
theorem Zzu (base:Nat) (v:Value) (zs sp:Lq) (w:World) (h:Own base w v zs sp):
  Kc 69 #[v] w fun e w'=>e=.returned (.tuple #[])∧Own base w' v (zs.map x5) (sp.map x5)∧w.grownBy w' v.ownBlock∧w'.heap.size=w.heap.size:=by
 obtain ⟨h1,h2,h3,h4⟩:=h;rcases h4 with ⟨rfl,rfl,rfl⟩ | ⟨g,rest,hg,rfl,hr⟩
 ·refine (Zzv w).mono ?_;rintro e w' ⟨rfl,rfl⟩;exact ⟨rfl,Own.nil _ _,World.grownBy.refl _ _,rfl⟩
 ·have:=Zzt g zs.length (zs++sp) rest w hr (by simpa using h3);rw [List.length_append] at this;refine this.mono ?_;rintro e w' ⟨rfl,hr',hg',hs'⟩;refine ⟨rfl,⟨h1.x5,h2.x5,by simpa using h3,.inr ⟨g,rest,hg,by simp,by simpa using hr'⟩⟩,hg',hs'⟩
end Go.Proofs.YtlclabbnpjobgaaGreatDoor
