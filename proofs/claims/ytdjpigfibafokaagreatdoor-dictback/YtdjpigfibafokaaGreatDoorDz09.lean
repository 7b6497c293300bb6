/- A slab of things of type store.cell that a walk keeps: in whatever blocks of the walk's own it lies. -/
import Derived.Test.YtdjpigfibafokaaGreatDoorDz01
import Derived.Test.YtdjpigfibafokaaGreatDoorDz08
import Derived.Test.YtdjpigfibafokaaGreatDoorProg
import Derived.Test.YtdjpigfibafokaaGreatDoorDz03
import Derived.BigQuiet
import Derived.Deep.RegionHeld2
namespace Go.Proofs.YtdjpigfibafokaaGreatDoor
variable {g k:Nat}
variable {w w':World}
variable {zs:Lq}
set_option maxHeartbeats 1000000
set_option maxRecDepth 20000
open Go.RowKit

def HsC (w0 w:World) (g room:Nat) (ps:List Pl) (fr:List Nat):Prop:=∃vp vf,SlC w g vp vf room ps fr∧(∀k∈slB g vp vf,w0.heap.size≤k)∧Kb w0 w

end Go.Proofs.YtdjpigfibafokaaGreatDoor

namespace Go.Proofs.YtdjpigfibafokaaGreatDoor
variable {g k:Nat}
variable {w w':World}
variable {zs:Lq}
set_option maxHeartbeats 1000000
set_option maxRecDepth 20000
open Go.RowKit

theorem turn_any (x n:Int) (w:World) (h0:0<n) (h:n<32):
    Kc 326 #[.int .u32 x,.int .u64 n] w fun e w'=>e=.returned (.int .u32 (rot x n))∧w'=w:=by
  go_enter Tryz.func326,Tryz.ntmps326
  go_wp2
  go_ret;exact ⟨rfl,rfl⟩

theorem choose_any (x y z:Int) (w:World):
    Kc 307 #[.int .u32 x,.int .u32 y,.int .u32 z] w fun e w'=>e=.returned (.int .u32 (chs x y z))∧w'=w:=by
  have hs:IntKind.u32.signed=false:=rfl;go_enter Tryz.func307,Tryz.ntmps307
  go_wp2
  go_ret;exact ⟨rfl,rfl⟩

theorem majority_any (x y z:Int) (w:World):
    Kc 309 #[.int .u32 x,.int .u32 y,.int .u32 z] w fun e w'=>e=.returned (.int .u32 (maj x y z))∧w'=w:=by
  go_enter Tryz.func309,Tryz.ntmps309
  go_wp2
  go_ret;exact ⟨rfl,rfl⟩

theorem mixLower_any (x:Int) (w:World):
    Kc 306 #[.int .u32 x] w fun e w'=>e=.returned (.int .u32 (big1 x))∧w'=w:=by
  go_enter Tryz.func306,Tryz.ntmps306
  go_wp2_with (go_at_call 326;refine (turn_any _ _ _ (by omega) (by omega)).mono ?_;rintro e w' ⟨rfl,rfl⟩)
  go_ret;exact ⟨rfl,rfl⟩

theorem mixUpper_any (x:Int) (w:World):
    Kc 308 #[.int .u32 x] w fun e w'=>e=.returned (.int .u32 (big0 x))∧w'=w:=by
  go_enter Tryz.func308,Tryz.ntmps308
  go_wp2_with (go_at_call 326;refine (turn_any _ _ _ (by omega) (by omega)).mono ?_;rintro e w' ⟨rfl,rfl⟩)
  go_ret;exact ⟨rfl,rfl⟩

theorem mixEarly_any (x:Int) (w:World):
    Kc 312 #[.int .u32 x] w fun e w'=>e=.returned (.int .u32 (sm0 x))∧w'=w:=by
  go_enter Tryz.func312,Tryz.ntmps312
  go_wp2_with (go_at_call 326;refine (turn_any _ _ _ (by omega) (by omega)).mono ?_;rintro e w' ⟨rfl,rfl⟩)
  go_ret;exact ⟨rfl,rfl⟩

theorem mixLate_any (x:Int) (w:World):
    Kc 311 #[.int .u32 x] w fun e w'=>e=.returned (.int .u32 (sm1 x))∧w'=w:=by
  go_enter Tryz.func311,Tryz.ntmps311
  go_wp2_with (go_at_call 326;refine (turn_any _ _ _ (by omega) (by omega)).mono ?_;rintro e w' ⟨rfl,rfl⟩)
  go_ret;exact ⟨rfl,rfl⟩

theorem u32_or_nat (a b:Nat) (ha:a<4294967296) (hb:b<4294967296):bits .or .u32 (a:Int) (b:Int)=((a ||| b:Nat):Int):=by
  have hx:a ||| b<2 ^ 32:=Nat.or_lt_two_pow (by omega) (by omega)
  show IntKind.u32.wrap ((BitVec.ofInt 32 (a:Int) ||| BitVec.ofInt 32 (b:Int)).toNat:Int)=_;have e:∀c:Nat,c<4294967296→(BitVec.ofInt 32 (c:Int)).toNat=c:=by
    intro c hc;rw [BitVec.toNat_ofInt];omega
  rw [BitVec.toNat_or,e a ha,e b hb];show (((a ||| b:Nat):Int)) % 4294967296=_;omega

theorem u32_join (i:Nat) (a b:Int) (h1:0≤a) (h2:a<4294967296) (h3:0≤b) (h4:b<2 ^ i) (h5:b<4294967296) (hm:a.toNat % 2 ^ i=0):bits .or .u32 a b=a+b:=by
  obtain ⟨A,rfl⟩:=Int.eq_ofNat_of_zero_le h1;obtain ⟨B,rfl⟩:=Int.eq_ofNat_of_zero_le h3;rw [u32_or_nat A B (by omega) (by omega),nat_join i A B (by simpa using hm) (by exact_mod_cast h4)];simp

theorem word_num (a b c d:Int) (ha:0≤a∧a≤255) (hb:0≤b∧b≤255) (hc:0≤c∧c≤255) (hd:0≤d∧d≤255):
    bits .or .u32 (bits .or .u32 (bits .or .u32 (a * 16777216) (b * 65536)) (c * 256)) d=a * 16777216+b * 65536+c * 256+d:=by
  rw [u32_join 24 (a * 16777216) (b * 65536) (by omega) (by omega) (by omega) (by omega) (by omega) (by omega),
    u32_join 16 _ (c * 256) (by omega) (by omega) (by omega) (by omega) (by omega) (by omega),
    u32_join 8 _ d (by omega) (by omega) (by omega) (by omega) (by omega) (by omega)]

theorem word_any (a b c d:Int) (w:World) (ha:0≤a∧a≤255) (hb:0≤b∧b≤255) (hc:0≤c∧c≤255) (hd:0≤d∧d≤255):
    Kc 310 #[.int .u8 a,.int .u8 b,.int .u8 c,.int .u8 d] w fun e w'=>e=.returned (.int .u32 (a * 16777216+b * 65536+c * 256+d))∧w'=w:=by
  have HE:=hidden (word_num a b c d ha hb hc hd);go_enter Tryz.func310,Tryz.ntmps310
  go_wp2
  go_ret;refine ⟨?_,rfl⟩;rw [← HE.out];rfl

end Go.Proofs.YtdjpigfibafokaaGreatDoor

namespace Go.Proofs.YtdjpigfibafokaaGreatDoor
variable {g k:Nat}
variable {w w':World}
variable {zs:Lq}
set_option maxHeartbeats 1000000
set_option maxRecDepth 20000
open Go.RowKit

theorem sch_set (b:Lq) (k:Nat) (hk:k<64):sch b (k+1)++List.replicate (64-(k+1)) 0=(sch b k++List.replicate (64-k) 0).set k (nextWord b (sch b k) k):=by
  rw [show 64-k=(64-(k+1))+1 by omega,List.replicate_succ,List.set_append_right _ _ (by rw [sch_length];omega),sch_length,Nat.sub_self,List.set_cons_zero];simp [sch]

theorem getD_bytes (h:Bytes zs) (i:Nat):0≤zs.getD i 0∧zs.getD i 0≤255:=by
  by_cases hi:i<zs.length
  · exact h _ (by simp [List.getD,hi])
  · simp [List.getD,hi]

def Filled (w:World) (g:Nat) (b:Lq) (k:Nat):Prop:=Blk w g 353 (U (sch b k++List.replicate (64-k) 0))
theorem Filled.cell {b:Lq} (h:Filled w g b k) (i:Nat) (hi:i<k):w.cell? ⟨g,i,none⟩=some (.int .u32 ((sch b k).getD i 0)):=by
  rw [Blk.wcell h i (by have:=sch_length b k;simp;omega)];simp [List.getD,List.getElem?_append_left (show i<(sch b k).length by rw [sch_length];omega)]
theorem Filled.there {b:Lq} (h:Filled w g b k) (hk:k<64):∃z,w.cell? ⟨g,k,none⟩=some (.int .u32 z):=⟨_,Blk.wcell h k (by have:=sch_length b k;simp;omega)⟩
theorem Filled.next {b:Lq} (h:Filled w g b k) (hk:k<64) (z:Int) (hz:nextWord b (sch b k) k=z):Filled (w.setCell ⟨g,k,none⟩ (.int .u32 z)) g b (k+1):=by
  have:=Blk.set h k (.int .u32 z);rw [U_set,← hz,← sch_set b k hk,hz] at this;exact this

theorem schedule_any (bs:Lq) (w:World) (hb:Bytes bs) (hl:bs.length=64):
    Kc 273 #[.agg (B bs)] w fun e w'=>e=.returned (.agg (U (sch bs 64)))∧Kb w w':=by
  have HB:=hidden hb;have HL:=hidden hl;clear hb hl;go_enter Tryz.func273,Tryz.ntmps273
  go_wp2_with (first | (refine wpList_bx _ rfl _ _ rfl _ rfl ?_;intro w1 g1 hg1 hl1 B1 b1) | (have hh2:=hl2;clear hh2;refine wpList_al _ rfl _ rfl _ zero_w64 ?_;intro w3 g3 hg3 hl3 B3 b3) | (refine wpList_al _ rfl _ rfl _ zero_w64 ?_;intro w2 g2 hg2 hl2 B2 b2))
  have s1:=b1.size;have s2:=b2.size;have s3:=b3.size;have HB1:=hidden ((B1.grow b2).grow b3);have HB2:=hidden (B2.grow b3);have HF:Hid (Filled w3 g3 bs 0):=B3;have hbl:=(b1.trans (b2.mono s1)).trans (b3.mono (Nat.le_trans s1 s2));clear B1 B2 B3 b1 b2 b3;have n1:g1≠g3:=by omega
  have n2:g2≠g3:=by omega
  have n3:w.heap.size≤g3:=by omega
  have n4:w.heap.size≤g2:=by omega
  clear hg1 hg2 hg3 hl1 hl2 hl3 s1 s2 s3
  go_loopw [6] (fun i wr=>∃k:Nat,k≤16∧i=.int .i64 k∧Hid (Blk wr g1 316 (B bs))∧Hid (Blk wr g2 353 (U (List.replicate 64 0)))∧Hid (Filled wr g3 bs k)∧Kb w wr) (fun i _=>16-(intOf i).toNat)
  case atStart=>exact ⟨0,by omega,rfl,HB1,HB2,HF,hbl⟩
  case round=>
    clear HB1 HB2 HF hbl;obtain ⟨k,hk,rfl,hb1,hb2,hb3,hbl⟩:=hrel
    by_cases hlt:k<16
    · have hc:∀i:Nat,i<64→wr.cell? ⟨g1,i,none⟩=some (.int .u8 (bs.getD i 0)):=fun i hi=>hb1.out.bcell i (by have:=HL.out;omega)
      have c0:=hc (4 * k) (by omega);have c1:=hc (4 * k+1) (by omega);have c2:=hc (4 * k+2) (by omega);have c3:=hc (4 * k+3) (by omega);obtain ⟨z,hy⟩:=hb3.out.there (by omega);have hf:=Blk.frozen hb3.out k;have x0:=getD_bytes HB.out (4 * k);have x1:=getD_bytes HB.out (4 * k+1);have x2:=getD_bytes HB.out (4 * k+2);have x3:=getD_bytes HB.out (4 * k+3);have k0:(0:Int)≤(k:Int):=by omega
      have k1:(k:Int)<64:=by omega
      have j0:4 * (k:Int)<64:=by omega
      have j1:4 * (k:Int)+1<64:=by omega
      have j2:4 * (k:Int)+2<64:=by omega
      have j3:4 * (k:Int)+3<64:=by omega
      have n0:(0:Int)≤4 * (k:Int):=by omega
      have n1':(0:Int)≤4 * (k:Int)+1:=by omega
      have n2':(0:Int)≤4 * (k:Int)+2:=by omega
      have n3':(0:Int)≤4 * (k:Int)+3:=by omega
      have r0:IntKind.i64.wrap (4 * (k:Int))=4 * (k:Int):=by rw [IntKind.wrap_i64];omega
      have r1:IntKind.i64.wrap (4 * (k:Int)+1)=4 * (k:Int)+1:=by rw [IntKind.wrap_i64];omega
      have r2:IntKind.i64.wrap (4 * (k:Int)+2)=4 * (k:Int)+2:=by rw [IntKind.wrap_i64];omega
      have r3:IntKind.i64.wrap (4 * (k:Int)+3)=4 * (k:Int)+3:=by rw [IntKind.wrap_i64];omega
      have e0:(4 * (k:Int)).toNat=4 * k:=by omega
      have e1:(4 * (k:Int)+1).toNat=4 * k+1:=by omega
      have e2:(4 * (k:Int)+2).toNat=4 * k+2:=by omega
      have e3:(4 * (k:Int)+3).toNat=4 * k+3:=by omega
      have HE:Hid (nextWord bs (sch bs k) k=bs.getD (4 * k) 0 * 16777216+bs.getD (4 * k+1) 0 * 65536+bs.getD (4 * k+2) 0 * 256+bs.getD (4 * k+3) 0):=by
        show _=_;rw [nextWord,if_pos hlt]
      clear hc;generalize bs.getD (4 * k) 0=z0 at *;generalize bs.getD (4 * k+1) 0=z1 at *;generalize bs.getD (4 * k+2) 0=z2 at *;generalize bs.getD (4 * k+3) 0=z3 at *
      go_wp2_with fail
      go_region_held2 (fun w'=>w'.cell? ⟨g1,4 * k,none⟩=some (.int .u8 z0)∧w'.cell? ⟨g1,4 * k+1,none⟩=some (.int .u8 z1)∧w'.cell? ⟨g1,4 * k+2,none⟩=some (.int .u8 z2)∧w'.cell? ⟨g1,4 * k+3,none⟩=some (.int .u8 z3))
        (first | (refine ⟨?_,?_,?_,?_⟩ <;> first | assumption | (refine (cell_set_ne _ _ _ _ _ _ ?_).trans ?_ <;> assumption)))
        (first | (go_at_call 310;refine (word_any z0 z1 z2 z3 _ x0 x1 x2 x3).mono ?_;rintro e w7 ⟨rfl,rfl⟩))
      clear c0 c1 c2 c3 hy hf;go_wp2
      exact ⟨⟨k+1,by omega,by go_num,hb1.out.other _ _ n1,hb2.out.other _ _ n2,hb3.out.next (by omega) _ HE.out,(setCell_below _ _ hbl n3).drew⟩,by simp [intOf];omega⟩
    · have hf16:Hid (Filled wr g3 bs 16):=by
        have:k=16:=by omega
        subst this;exact hb3
      obtain ⟨kk,rfl⟩:∃x,x=k:=⟨_,rfl⟩
      go_wp2_with fail
      go_loopw [5] (fun i wr=>∃k:Nat,16≤k∧k≤64∧i=.int .i64 k∧Hid (Blk wr g2 353 (U (List.replicate 64 0)))∧Hid (Filled wr g3 bs k)∧Kb w wr) (fun i _=>64-(intOf i).toNat)
      case atStart=>exact ⟨16,by omega,by omega,rfl,hb2,hf16,hbl⟩
      case round=>
        clear hb1 hb2 hb3 hbl hf16 hk hlt;obtain ⟨k,hk0,hk,rfl,hb2,hb3,hbl⟩:=hrel;obtain ⟨w7,rfl⟩:∃x,x=wr:=⟨_,rfl⟩
        by_cases hlt:k<64
        · obtain ⟨k2,q2⟩:∃k2:Nat,(k:Int)-2=k2:=⟨k-2,by omega⟩
          obtain ⟨k7,q7⟩:∃k7:Nat,(k:Int)-7=k7:=⟨k-7,by omega⟩;obtain ⟨k15,q15⟩:∃k15:Nat,(k:Int)-15=k15:=⟨k-15,by omega⟩;obtain ⟨k16,q16⟩:∃k16:Nat,(k:Int)-16=k16:=⟨k-16,by omega⟩;have c0:=hb3.out.cell k2 (by omega);have c1:=hb3.out.cell k7 (by omega);have c2:=hb3.out.cell k15 (by omega);have c3:=hb3.out.cell k16 (by omega);obtain ⟨z,hy⟩:=hb3.out.there hlt;have hf:=Blk.frozen hb3.out k;have k0:(0:Int)≤(k:Int):=by omega
          have k1:(k:Int)<64:=by omega
          have j0:(k2:Int)<64:=by omega
          have j1:(k7:Int)<64:=by omega
          have j2:(k15:Int)<64:=by omega
          have j3:(k16:Int)<64:=by omega
          have n0:(0:Int)≤(k2:Int):=by omega
          have n1':(0:Int)≤(k7:Int):=by omega
          have n2':(0:Int)≤(k15:Int):=by omega
          have n3':(0:Int)≤(k16:Int):=by omega
          have r0':IntKind.i64.wrap (k2:Int)=(k2:Int):=by rw [IntKind.wrap_i64];omega
          have r1':IntKind.i64.wrap (k7:Int)=(k7:Int):=by rw [IntKind.wrap_i64];omega
          have r2':IntKind.i64.wrap (k15:Int)=(k15:Int):=by rw [IntKind.wrap_i64];omega
          have r3':IntKind.i64.wrap (k16:Int)=(k16:Int):=by rw [IntKind.wrap_i64];omega
          have m0:k2≠k:=by omega
          have m1:k7≠k:=by omega
          have m2:k15≠k:=by omega
          have m3:k16≠k:=by omega
          have HE:Hid (nextWord bs (sch bs k) k=ad (ad (ad (sm1 ((sch bs k).getD k2 0)) ((sch bs k).getD k7 0)) (sm0 ((sch bs k).getD k15 0))) ((sch bs k).getD k16 0)):=by
            show _=_;rw [nextWord,if_neg (by omega),show k-2=k2 by omega,show k-7=k7 by omega,show k-15=k15 by omega,show k-16=k16 by omega]
          generalize (sch bs k).getD k2 0=z0 at *;generalize (sch bs k).getD k7 0=z1 at *;generalize (sch bs k).getD k15 0=z2 at *;generalize (sch bs k).getD k16 0=z3 at *
          go_wp2_with fail
          go_region_held2 (fun w'=>w'.cell? ⟨g3,k2,none⟩=some (.int .u32 z0)∧w'.cell? ⟨g3,k7,none⟩=some (.int .u32 z1)∧w'.cell? ⟨g3,k15,none⟩=some (.int .u32 z2)∧w'.cell? ⟨g3,k16,none⟩=some (.int .u32 z3))
            (first | (refine ⟨?_,?_,?_,?_⟩ <;> first | assumption | (refine (cell_set_off _ _ _ _ _ ?_).trans ?_ <;> assumption)))
            (first | (go_at_call 311;refine (mixLate_any z0 _).mono ?_;rintro e w8 ⟨rfl,rfl⟩) | (go_at_call 312;refine (mixEarly_any z2 _).mono ?_;rintro e w8 ⟨rfl,rfl⟩))
          clear c0 c1 c2 c3 hy hf;go_wp2
          exact ⟨⟨k+1,by omega,by omega,by go_num,hb2.out.other _ _ n2,hb3.out.next (by omega) _ HE.out,(setCell_below _ _ hbl n3).drew⟩,by simp [intOf];omega⟩
        · obtain rfl:k=64:=by omega
          have HF:Hid (Blk w7 g3 353 (U (sch bs 64))):=by
            have:Blk w7 g3 353 (U (sch bs 64++List.replicate (64-64) 0)):=hb3.out;rw [show 64-64=0 from rfl,List.replicate_zero,List.append_nil] at this;exact this
          have HS:Hid ((U (sch bs 64)).size=64):=by rw [U_size,sch_length];exact rfl
          go_wp2_with (first | (refine wpList_ld _ rfl _ _ rfl g3 _ rfl HF.out 64 _ Tryz.underlying353 (by rw [HS.out];exact size_w64) ?_) | (refine wpList_st _ rfl _ _ _ rfl g2 _ _ rfl rfl hb2.out (by rw [HS.out];exact size_w64) (by rw [HS.out,U_size];simp) (U_one _) ?_))
          exact bodyPost_ret (v:=.agg (U (sch bs 64))) (results_cell_row rfl _ _ g2 _ _ _ _ rfl (hb2.out.row (U (sch bs 64))) Tryz.underlying353 rfl (by rw [HS.out];exact size_w64)) rfl ⟨rfl,setRow_below _ hbl n4⟩

end Go.Proofs.YtdjpigfibafokaaGreatDoor

namespace Go.Proofs.YtdjpigfibafokaaGreatDoor
variable {g k:Nat}
variable {w w':World}
variable {zs:Lq}
set_option maxHeartbeats 1000000
set_option maxRecDepth 20000
open Go.RowKit

def Laid (w:World):Prop:=w.heap.size ≥ 2∧(∀i,i<64→w.cell? ⟨1,i,none⟩=some (.int .u32 (ks.getD i 0)))∧(∀i,i<8→w.cell? ⟨0,i,none⟩=some (.int .u32 (hs.getD i 0)))
theorem Laid.grow (h:Laid w) (hb:Kb w w'):Laid w':=by
  obtain ⟨h0,h1,h2⟩:=h;refine ⟨Nat.le_trans h0 hb.size,fun i hi=>?_,fun i hi=>?_⟩
  · rw [hb.cell (p:=⟨1,i,none⟩) (by show 1<_;omega)];exact h1 i hi
  · rw [hb.cell (p:=⟨0,i,none⟩) (by show 0<_;omega)];exact h2 i hi

theorem rnd_flat (k w a b c d e f g h:Int):rnd k w [a,b,c,d,e,f,g,h]=
    [((h+big1 e+chs e f g+k+w) % 4294967296+(big0 a+maj a b c) % 4294967296) % 4294967296,a,b,c,(d+(h+big1 e+chs e f g+k+w) % 4294967296) % 4294967296,e,f,g]:=by
  have:ad (ad (ad (ad h (big1 e)) (chs e f g)) k) w=(h+big1 e+chs e f g+k+w) % 4294967296:=by
    simp only [ad];omega
  simp only [rnd,this];rfl

theorem mixed_any (v ws:Lq) (w:World) (hL:Laid w) (hv:v.length=8) (hw:ws.length=64):
    Kc 272 #[.agg (U v),.agg (U ws)] w fun e w'=>e=.returned (.agg (U (rds ws v 64)))∧Kb w w':=by
  have HW:=hidden hw;have HL:=hidden hL;obtain ⟨a,b,c,d,e,f,g,h,hvv⟩:=eight v hv;have HV:Hid (rds ws v 0=[a,b,c,d,e,f,g,h]):=hvv;have HG:Hid (v.getD 0 0=a∧v.getD 1 0=b∧v.getD 2 0=c∧v.getD 3 0=d∧v.getD 4 0=e∧v.getD 5 0=f∧v.getD 6 0=g∧v.getD 7 0=h):=by subst hvv;exact ⟨rfl,rfl,rfl,rfl,rfl,rfl,rfl,rfl⟩
  have HV8:=hidden hv;clear hw hL hv hvv;go_enter Tryz.func272,Tryz.ntmps272
  go_wp2_with (first | (have hh1:=hl1;clear hh1;refine wpList_bx _ rfl _ _ rfl _ rfl ?_;intro w2 g2 hg2 hl2 B2 b2) | (refine wpList_bx _ rfl _ _ rfl _ rfl ?_;intro w1 g1 hg1 hl1 B1 b1) | (refine wpList_al _ rfl _ rfl _ zero_w8 ?_;intro w3 g3 hg3 hl3 B3 b3))
  have s1:=b1.size;have s2:=b2.size;have s3:=b3.size;have HB1:=hidden ((B1.grow b2).grow b3);have HB2:=hidden (B2.grow b3);have HB3:=hidden B3;have hbl:=(b1.trans (b2.mono s1)).trans (b3.mono (Nat.le_trans s1 s2));clear B1 B2 B3 b1 b2 b3;have n3:w.heap.size≤g3:=by omega
  clear hg1 hg2 hg3 hl1 hl2 hl3 s1 s2 s3;have x0:=HB1.out.wcell 0 (by have:=HV8.out;omega);have x1:=HB1.out.wcell 1 (by have:=HV8.out;omega);have x2:=HB1.out.wcell 2 (by have:=HV8.out;omega);have x3:=HB1.out.wcell 3 (by have:=HV8.out;omega);have x4:=HB1.out.wcell 4 (by have:=HV8.out;omega);have x5:=HB1.out.wcell 5 (by have:=HV8.out;omega);have x6:=HB1.out.wcell 6 (by have:=HV8.out;omega);have x7:=HB1.out.wcell 7 (by have:=HV8.out;omega);obtain ⟨y0,y1,y2,y3,y4,y5,y6,y7⟩:=HG.out;rw [y0] at x0;rw [y1] at x1;rw [y2] at x2;rw [y3] at x3;rw [y4] at x4;rw [y5] at x5;rw [y6] at x6;rw [y7] at x7;clear y0 y1 y2 y3 y4 y5 y6 y7 HG
  go_quiet (fail)
  clear x0 x1 x2 x3 x4 x5 x6 x7
  go_wp2_with fail
  have HLd:Hid (Laid (w3.drewN nq)):=(HL.out.grow hbl).grow (below_drewN (Below.refl _ _) nq);have hbl':Kb w (w3.drewN nq):=below_drewN hbl nq;have HB2':Hid (Blk (w3.drewN nq) g2 353 (U ws)):=HB2.out.grow (below_drewN (Below.refl _ _) nq);have HB3':Hid (Blk (w3.drewN nq) g3 315 (U (List.replicate 8 0))):=HB3.out.grow (below_drewN (Below.refl _ _) nq);clear HB1 HB2 HB3 hbl HL
  go_loopw [5,6,7,8,9,10,11,12,32] (fun a' b' c' d' e' f' g' h' i wr=>∃(k:Nat) (a b c d e f g h:Int),k≤64∧i=.int .i64 k∧a'=.int .u32 a∧b'=.int .u32 b∧c'=.int .u32 c∧d'=.int .u32 d∧e'=.int .u32 e∧f'=.int .u32 f∧g'=.int .u32 g∧h'=.int .u32 h∧Hid (rds ws v k=[a,b,c,d,e,f,g,h])∧Hid (Laid wr)∧Hid (Blk wr g2 353 (U ws))∧Hid (Blk wr g3 315 (U (List.replicate 8 0)))∧Kb w wr) (fun _ _ _ _ _ _ _ _ i _=>64-(intOf i).toNat)
  case atStart=>exact ⟨0,a,b,c,d,e,f,g,h,by omega,rfl,rfl,rfl,rfl,rfl,rfl,rfl,rfl,rfl,HV,HLd,HB2',HB3',hbl'⟩
  case round=>
    clear HV HLd HB2' HB3' hbl';obtain ⟨k,a,b,c,d,e,f,g,h,hk,rfl,rfl,rfl,rfl,rfl,rfl,rfl,rfl,rfl,hR,hLd,hB2,hB3,hbl⟩:=hrel
    by_cases hlt:k<64
    · have c1:=hB2.out.wcell k (by have:=HW.out;omega)
      have c2:=hLd.out.2.1 k hlt;have k0:(0:Int)≤(k:Int):=by omega
      have k1:(k:Int)<64:=by omega
      have HE:Hid (rds ws v (k+1)=[((h+big1 e+chs e f g+ks.getD k 0+ws.getD k 0) % 4294967296+(big0 a+maj a b c) % 4294967296) % 4294967296,a,b,c,(d+(h+big1 e+chs e f g+ks.getD k 0+ws.getD k 0) % 4294967296) % 4294967296,e,f,g]):=by
        show rds ws v (k+1)=_;rw [rds,hR.out,rnd_flat]
      generalize ks.getD k 0=kt at *;generalize ws.getD k 0=wt at *
      go_wp2_with fail
      go_quiet ((first | (go_at_call 306;exact Calls.quiet_of_same (mixLower_any _ _)) | (go_at_call 307;exact Calls.quiet_of_same (choose_any _ _ _ _))))
      go_wp2_with (first | (go_at_call 308;refine (mixUpper_any _ _).mono ?_;rintro e' w' ⟨rfl,rfl⟩) | (go_at_call 309;refine (majority_any _ _ _ _).mono ?_;rintro e' w' ⟨rfl,rfl⟩))
      have hd:=below_drewN (Below.refl wr.heap.size wr) nq;exact ⟨⟨k+1,_,_,_,_,_,_,_,_,by omega,by go_num,rfl,rfl,rfl,rfl,rfl,rfl,rfl,rfl,HE,hLd.out.grow hd,hB2.out.grow hd,hB3.out.grow hd,below_drewN hbl nq⟩,by simp [intOf];omega⟩
    · obtain rfl:k=64:=by omega
      have HS:Hid ((U [a,b,c,d,e,f,g,h]).size=8):=by rw [U_size];exact rfl
      go_wp2_with (first | (refine wpList_st _ rfl _ _ _ rfl g3 _ (U [a,b,c,d,e,f,g,h]) rfl rfl hB3.out (by rw [HS.out];exact size_w8) (by rw [HS.out,U_size];simp) (U_one _) ?_))
      exact bodyPost_ret (v:=.agg (U [a,b,c,d,e,f,g,h])) (results_cell_row rfl _ _ g3 _ _ _ _ rfl (hB3.out.row (U [a,b,c,d,e,f,g,h])) Tryz.underlying315 rfl (by rw [HS.out];exact size_w8)) rfl ⟨by rw [hR.out],setRow_below _ hbl n3⟩

end Go.Proofs.YtdjpigfibafokaaGreatDoor
