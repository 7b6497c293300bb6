/- slices.Clone of writes, batch.latest and batch.Keys, as contracts. -/
import Derived.Test.YtdjpigfibafokaaGreatDoorDz01
import Derived.Test.YtdjpigfibafokaaGreatDoorDz29
import Derived.Test.YtdjpigfibafokaaGreatDoorDz28
import Derived.Test.YtdjpigfibafokaaGreatDoorDz19
import Derived.Test.YtdjpigfibafokaaGreatDoorDz20
import Derived.Test.YtdjpigfibafokaaGreatDoorDz16
namespace Go.Proofs.YtdjpigfibafokaaGreatDoor
variable {bp d h hi i lo:Nat}
variable {cs:Lz}
variable {kv lv sv:Value}
variable {q:Int}
variable {w w' w0 w1 w4 wa:World}
set_option maxHeartbeats 8000000
set_option maxRecDepth 20000
open Go.RowKit

def ClnPost (ls:List Wt) (w:World) (e:Ending) (w':World):Prop:=∃v',e=.returned v'∧Lst w' 198 34 v' ls.length (flatE encW ls)∧(∀g,v'.ownBlock=some g→w.heap.size≤g)∧Kb w w'

theorem eql_wr_nil (w:World) (a:Option Addr) (l c:Nat):(binOp .eql 199 (.slice a l c) (.slice none 0 0)).run Tryz.prog w=.ok (.bool a.isNone) w:=
  Lib.run_eql_slice_nil w _ _ a l c 0 0 Tryz.underlying199

theorem wclone_any (v:Value) (ls:List Wt) (w:World) (h:WrAt w v ls) (hn:ls.length≤65536):Kc 250 #[v] w (ClnPost ls w):=by
  have HW:=hidden h;obtain ⟨a,cap,rfl,h1,h2,h3,h4⟩:=id h;cases a with
  | none=>
    have hl:ls.length=0:=by have:=h2 rfl;omega
    have HP:Hid (ClnPost ls w (.returned (.slice none 0 0)) w):=⟨_,rfl,⟨by rw [flatE_len ls (K:=34) (fun x hx=>(h4.1 x hx).len)],.inl ⟨rfl,hl⟩⟩,fun g hg=>by simp [Value.ownBlock] at hg,Below.refl _ _⟩;have e1:=eql_wr_nil w none ls.length cap;simp only [Option.isNone_none] at e1;clear h h1 h2 h3 h4 HW hl;go_enter Tryz.func250,Tryz.ntmps250
    go_wp2
    go_ret;exact HP.out
  | some ad=>
    have e1:=eql_wr_nil w (some ad) ls.length cap;simp only [Option.isNone_some] at e1;have HN:=hidden hn;have HPost:Hid (∀v' w1 w' g,w.heap.size≤g→Kb w w1→Lst w' 198 34 v' (0+ls.length) ([]++flatE encW ls)→w1.grownBy w' (some g)→WhereL w1 (.slice (some ⟨g,0,none⟩) 0 0) v'→ClnPost ls w (.returned v') w'):=fun v' w1 w' g k1 k2 k3 k4 k5=>by
      refine ⟨v',rfl,by simpa using k3,fun q hq=>?_,below_row k2 k4 k1⟩;rcases k5 with k5 | ⟨q',k6,k7⟩
      · rw [hq] at k5
        simp only [Value.ownBlock,Option.some.injEq] at k5;omega
      · rw [hq] at k6
        injection k6 with k6;have:=k2.size;omega
    clear h h1 h2 h3 h4 hn;go_enter Tryz.func250,Tryz.ntmps250
    go_wp2_with (first
      |(refine wpList_bs0w _ rfl rfl ?_;intro w1 g hg hown b1)
      |(refine wpList_appWs _ rfl _ _ rfl _ _ 0 [] ls rfl rfl hown (HW.out.grow b1) (by have:=HN.out;omega) ?_;intro v' w' k3 k4 k5))
    go_ret;exact HPost.out v' w1 w' g hg b1 k3 k4 k5

theorem ins_zero (v f:Value) (w:World):Kc 313 #[v,.int .i64 0,.int .i64 0,f] w fun e w'=>e=.returned (.tuple #[])∧w'=w:=by
  go_enter Tryz.func313,Tryz.ntmps313
  go_wp2_with fail
  go_loopw [8] (fun iv wr=>iv=.int .i64 1∧wr=w) (fun _ _=>0)
  case atStart=>exact ⟨rfl,rfl⟩
  case round=>
    obtain ⟨rfl,rfl⟩:=hrel;go_wp2
    go_end0;exact ⟨rfl,rfl⟩

theorem stb_zero (v f:Value) (w:World):Kc 278 #[v,.int .i64 0,f] w fun e w'=>e=.returned (.tuple #[])∧w'=w:=by
  have HC:Hid (∀w,Kc 313 #[v,.int .i64 0,.int .i64 0,f] w fun e w'=>e=.returned (.tuple #[])∧w'=w):=fun w=>ins_zero v f w
  go_enter Tryz.func278,Tryz.ntmps278
  go_wp2_with fail
  go_loopw [7,8] (fun av bv wr=>av=.int .i64 0∧bv=.int .i64 20∧wr=w) (fun _ _ _=>0)
  case atStart=>exact ⟨rfl,rfl,rfl⟩
  case round=>
    obtain ⟨rfl,rfl,rfl⟩:=hrel
    go_wp2_with (go_at_call 313;refine (HC.out _).mono ?_;rintro e w' ⟨rfl,hx⟩;rw [hx];clear hx w')
    go_loopw [6,7,8,9] (fun kv _ _ _ w2=>kv=.int .i64 20∧w2=wr) (fun _ _ _ _ _=>0)
    case atStart=>exact ⟨rfl,rfl⟩
    case round=>
      obtain ⟨rfl,rfl⟩:=hrel;go_wp2
      go_end0;exact ⟨rfl,rfl⟩

theorem srt_zero (f:Value) (w:World):Kc 251 #[.slice none 0 0,f] w fun e w'=>e=.returned (.tuple #[])∧w'=w:=by
  have HC:Hid (∀w,Kc 278 #[.slice none 0 0,.int .i64 0,f] w fun e w'=>e=.returned (.tuple #[])∧w'=w):=fun w=>stb_zero _ f w
  go_enter Tryz.func251,Tryz.ntmps251
  go_wp2_with (go_at_call 278;refine (HC.out _).mono ?_;rintro e w' ⟨rfl,hx⟩;rw [hx];clear hx w')
  go_end0;exact ⟨rfl,rfl⟩

def SrtPost (w0:World) (v:Value) (ls:List Wt) (e:Ending) (w':World):Prop:=e=.returned (.tuple #[])∧∃ys,ys.length=ls.length∧Lst w' 198 34 v ls.length (flatE encW ys)∧(∀x∈ys,WtOk x)∧Stab ls ys∧Srt 0 ys.length ys∧Kb w0 w'
theorem sorted_any (w0:World) (v:Value) (ls:List Wt) (w:World) (h:Lst w 198 34 v ls.length (flatE encW ls)) (hg:∀g,v.ownBlock=some g→w0.heap.size≤g) (hok:∀x∈ls,WtOk x) (hb:Kb w0 w) (hn:ls.length≤65536):Kc 251 #[v,.func (.func 249) #[] #[]] w (SrtPost w0 v ls):=by
  rcases h.2 with ⟨rfl,hz⟩ | ⟨g,cap,cur,rfl,_⟩
  · refine (srt_zero _ w).mono ?_
    rintro e w' ⟨rfl,rfl⟩;exact ⟨rfl,ls,rfl,h,hok,Stab.refl _,Srt.none (by omega),hb⟩
  · refine (srt_any w g ls.length cap ls w ⟨rfl,h,Mod.refl _ _,hok⟩ hn).mono ?_
    rintro e w' ⟨rfl,ys,sw,st,so⟩;have e1:=sw.len;refine ⟨rfl,ys,e1,sw.own,sw.ok,st.stab,by rw [e1];exact so,hb.trans ?_⟩;exact sw.mod.below (fun k hk=>by obtain rfl:k=g:=(by simpa using hk);exact hg k rfl) hb.size

def LatPost (ls:List Wt) (w:World) (e:Ending) (w':World):Prop:=∃v ks,e=.returned v∧Lat ls ks∧Lst w' 198 34 v ks.length (flatE encW ks)∧(∀g,v.ownBlock=some g→w.heap.size≤g)∧ks.length≤ls.length∧Kb w w'

structure Kpt (w0:World) (gs:Value) (ys:List Wt) (i:Nat) (w:World) (kv:Value) (ks:List Wt):Prop where
  srt:Lst w 198 34 gs ys.length (flatE encW ys)
  own:Lst w 198 34 kv ks.length (flatE encW ks)
  new:∀g,kv.ownBlock=some g→w0.heap.size≤g
  ne:∀g,kv.ownBlock=some g→gs.ownBlock≠some g
  kp:KpI ys i ks
  few:ks.length≤i
  ok:∀x∈ks,WtOk x
  bel:Kb w0 w
theorem Kpt.grow {gs:Value} {ys ks:List Wt} (h:Kpt w0 gs ys i w kv ks) (hb:Kb w w'):Kpt w0 gs ys i w' kv ks:=⟨lst_grow h.srt hb,lst_grow h.own hb,h.new,h.ne,h.kp,h.few,h.ok,grow_trans h.bel hb⟩
theorem Kpt.skip {gs:Value} {ys ks:List Wt} (h:Kpt w0 gs ys i w kv ks) (hn: ¬Ltr ys i):Kpt w0 gs ys (i+1) w kv ks:=⟨h.srt,h.own,h.new,h.ne,h.kp.skip hn,Nat.le_succ_of_le h.few,h.ok,h.bel⟩
theorem Kpt.take {gs kv':Value} {ys ks:List Wt} {x:Wt} (h:Kpt w0 gs ys i w kv ks) (hk:Kys ys) (hs:Srt 0 ys.length ys) (hx:ys[i]?=some x) (hxo:WtOk x) (hn:Ltr ys i) (q1:Lst w' 198 34 kv' (ks.length+1) (flatE encW ks++encW x)) (q2:w.grownBy w' kv.ownBlock) (q3:WhereL w kv kv'):Kpt w0 gs ys (i+1) w' kv' (ks++[x]):=by
  have hm:Mod (match kv.ownBlock with | some g=>[g] | none=>[]) w w':=Mod.of_grown q2 (fun k hk=>by rw [hk];simp);have hnew:∀g,kv'.ownBlock=some g→(kv.ownBlock=some g)∨w.heap.size≤g:=fun g hg=>by
    rcases q3 with q3 | ⟨k,k1,k2⟩
    · exact .inl (by rw [← q3];exact hg)
    · rw [hg] at k1
      injection k1 with k1;exact .inr (by omega)
  refine ⟨lst_mod h.srt hm fun g hg hin=>?_,by rw [List.length_append,flatE_snoc];exact q1,fun g hg=>?_,fun g hg e=>?_,h.kp.take hk hs hx hn,by rw [List.length_append];have:=h.few;simp;omega,fun y hy=>?_,?_⟩
  · cases hb:kv.ownBlock with
    | none=>rw [hb] at hin;cases hin
    | some q=>
      rw [hb] at hin;obtain rfl:g=q:=by simpa using hin
      exact h.ne g hb hg
  · rcases hnew g hg with e | e
    · exact h.new g e
    · have:=h.bel.size
      omega
  · rcases hnew g hg with e1 | e1
    · exact h.ne g e1 e
    · have:=lst_lt h.srt g e
      omega
  · rcases List.mem_append.1 hy with hy | hy
    · exact h.ok y hy
    · obtain rfl:y=x:=by simpa using hy
      exact hxo
  · refine h.bel.trans (hm.below (fun k hk=>?_) h.bel.size)
    cases hb:kv.ownBlock with
    | none=>rw [hb] at hk;cases hk
    | some q=>
      rw [hb] at hk;obtain rfl:k=q:=by simpa using hk
      exact h.new k hb

set_option maxRecDepth 100000 in
theorem latest_any (v:Value) (ls:List Wt) (w:World) (h:WrAt w v ls) (hn:ls.length≤65536):Kc 197 #[v] w (LatPost ls w):=by
  obtain ⟨fs,hu⟩:=u_write;have HUW:=hidden hu;have HOK:=hidden h.ok;have HC:=hidden (wclone_any v ls w h hn);have HSO:Hid (∀v' w',Lst w' 198 34 v' ls.length (flatE encW ls)→(∀g,v'.ownBlock=some g→w.heap.size≤g)→Kb w w'→Kc 251 #[v',.func (.func 249) #[] #[]] w' (SrtPost w v' ls)):=fun v' w' h1 h2 h3=>sorted_any w v' ls w' h1 h2 HOK.out h3 hn
  have HPost:Hid (∀kv ks ys gs w',Kpt w gs ys ys.length w' kv ks→Kys ys→Srt 0 ys.length ys→Stab ls ys→LatPost ls w (.returned kv) w'):=fun kv ks ys gs w' k1 k2 k3 k4=>⟨kv,ks,rfl,k1.kp.done k2 k3 k4,k1.own,k1.new,by have:=k1.few;have:=k4.1.length_eq;omega,k1.bel⟩
  have HNL:=hidden hn;clear h hu hn;go_enter Tryz.func197,Tryz.ntmps197
  go_wp2_with (first
    |(go_at_call 250;refine HC.out.mono ?_;rintro e w1 ⟨v1,rfl,c1,c2,c3⟩;have C1:=hidden c1;have C2:=hidden c2;have C3:=hidden c3;clear c1 c2 c3;obtain ⟨va,vc,rfl⟩:=lst_slice C1.out)
    |(go_at_call 251;refine (HSO.out _ _ C1.out C2.out C3.out).mono ?_;rintro e w2 ⟨rfl,ys,s1,s2,s3,s4,s5,s6⟩;have S1:=hidden s1;have S2:=hidden s2;have S3:=hidden s3;have S4:=hidden s4;have S5:=hidden s5;have S6:=hidden s6;clear s1 s2 s3 s4 s5 s6))
  obtain ⟨n,hn0⟩:∃n,n=ls.length:=⟨_,rfl⟩;have HN:Hid (n=ls.length∧ys.length=n∧n≤65536):=⟨hn0,by rw [hn0];exact S1.out,by rw [hn0];exact HNL.out⟩;rw [← hn0];have HSL:Hid (Lst w2 198 34 (.slice va n vc) ys.length (flatE encW ys)):=by show Lst _ _ _ _ _ _;rw [HN.out.2.1];have:=S2.out;rw [← hn0] at this;exact this
  have HK0:Hid (Kpt w (.slice va n vc) ys 0 w2 (.slice none 0 0) []):=⟨HSL.out,⟨rfl,.inl ⟨rfl,rfl⟩⟩,fun g hg=>by simp [Value.ownBlock] at hg,fun g hg=>by simp [Value.ownBlock] at hg,KpI.nil ys,by simp,fun x hx=>(by cases hx),S6.out⟩;have HKY:Hid (Kys ys):=fun x hx=>(S3.out x hx).hk
  clear C1 C2 C3 HC HSO hn0 S1 S2 S6 HSL HNL
  go_loopw [5,6,7,15] (fun kv _ _ iv wr=>∃(i:Nat) (ks:List Wt),iv=.int .i64 (i:Int)∧i≤n∧(∃a m c,kv=.slice a m c)∧Hid (Kpt w (.slice va n vc) ys i wr kv ks)) (fun _ _ _ iv _=>n-(intOf iv).toNat)
  case atStart=>exact ⟨0,[],rfl,by omega,⟨_,_,_,rfl⟩,HK0⟩
  case round=>
    clear HK0;obtain ⟨i,ks,rfl,hin,⟨ka,km,kc,rfl⟩,hkp⟩:=hrel
    by_cases hlt:i<n
    · as_aux_lemma=>
        have z1:(i:Int)<(n:Int):=by omega
        have z2:(0:Int)≤(i:Int):=by omega
        obtain ⟨g,cc,hva,_⟩:=lst_pos hkp.out.srt (by have:=HN.out;omega);injection hva with hva hnn hvc;subst hva;clear hnn;have hi:i<ys.length:=by have:=HN.out;omega
        obtain ⟨X,hX⟩:∃X,X=ys[i]!:=⟨_,rfl⟩;have hXg:ys[i]?=some X:=by rw [hX,getElem!_pos ys i hi];exact List.getElem?_eq_getElem hi
        have hXo:WtOk X:=S3.out X (List.mem_of_getElem? hXg);have HR:Hid (∀w',Kb wr w'→w'.rangeAt g (i * 34) (encW X)):=fun w' hb=>by
          have h1:=(lstE_range (by have:=(lst_grow hkp.out.srt hb);rw [HN.out.2.1] at this;exact this) HN.out.2.1 (fun x hx=>(S3.out x hx).len) i hi).1;rw [hX,getElem!_pos ys i hi];exact h1
        have HSX:Hid ((Tryz.prog.info? 198).map (·.size)=some (encW X).length):=by show _=_;rw [hXo.len];exact size_write
        have HSA:Hid ((Tryz.prog.info? 198).map (·.size)=some (encW X).toArray.size):=by show _=_;rw [List.size_toArray,hXo.len];exact size_write
        have HSZ:Hid ((encW zW).toArray.size=(encW X).toArray.size):=by show _=_;rw [List.size_toArray,List.size_toArray,hXo.len,zW_ok.len]
        have HON:=hidden hXo.all;have HXO:=hidden hXo;have HXG:=hidden hXg;obtain ⟨j,hj⟩:∃j,j=i+1:=⟨_,rfl⟩;have HJ:=hidden hj;have hi2:i≤200000:=by have:=HN.out;omega
        have hwi:=w64_succ hi2 hj;have hwi2:=wi_succ hi2 hj;have HX0:=hidden hX;clear hX hXg hXo hi hvc hj hi2
        go_wp2_with (first
          |((with_reducible refine at_ldd 19 18 ?_);refine wpList_load_mid rfl 198 _ rfl g (i * 34) rfl (encW X) _ (HR.out _ (Below.refl _ _)) HUW.out rfl HSX.out ?_)
          |((with_reducible refine at_ald 7 ?_);refine wpList_al _ rfl _ rfl _ zero_write ?_;intro w3 gq hg3 hl3 bq3 q3)
          |((with_reducible refine at_st 7 ?_);refine wpList_sto _ rfl _ _ _ rfl gq _ (encW X).toArray rfl rfl bq3 HSA.out HSZ.out HON.out ?_;intro w4 bq4 r4))
        have d4:Kb wr w4:=below_row q3 r4 hg3;have d4':Kb wr w4.drew:=grow_trans d4 (Below.refl _ _).drew;have BX:=hidden (bq4:Blk w4 gq 198 (encW X).toArray);clear bq3 bq4 q3 r4 hg3 hl3
        by_cases hlast:j=n
        · have y1:(j:Int)=(n:Int):=by rw [hlast]
          have HLT:Hid (Ltr ys i):=.inl (by have:=HJ.out;have:=HN.out;omega);have HKP2:=hidden (hkp.out.grow d4');refine wp_region_held_drew (S:=fun _=>True) (by kernel_rfl) (trivial) (fun hHeld=>?_);refine tkp 0 (.int .i64 (i:Int)) hHeld ?_;simp only [Act.put,zq1,zq2,zq4,zq5,zq6];refine tkp 1 (.int .i64 (j:Int)) hHeld ?_;simp only [Act.put,zq1,zq2,zq3,zq4,zq5,zq6];refine tkp 2 (.slice (some ⟨g,0,none⟩) n vc) hHeld ?_;simp only [Act.put,zq1,zq2,zq3,zq4,zq5,zq6];refine tkp 3 (.int .i64 (n:Int)) hHeld ?_;simp only [Act.put,zq1,zq2,zq3,zq4,zq5,zq6];refine tkp 4 (.bool true) hHeld ?_;simp only [Act.put,zq1,zq2,zq3,zq4,zq5,zq6];refine tkp 5 (.bool true) hHeld ?_;simp only [Act.put,zq1,zq2,zq3,zq4,zq5,zq6];refine tks 6 hHeld ?_;simp only [Act.put,zq1,zq2,zq3,zq4,zq5,zq6];refine tks 7 hHeld ?_;simp only [Act.put,zq1,zq2,zq3,zq4,zq5,zq6];refine tks 8 hHeld ?_;simp only [Act.put,zq1,zq2,zq3,zq4,zq5,zq6];refine tks 9 hHeld ?_;simp only [Act.put,zq1,zq2,zq3,zq4,zq5,zq6];refine tks 10 hHeld ?_;simp only [Act.put,zq1,zq2,zq3,zq4,zq5,zq6];refine tks 11 hHeld ?_;simp only [Act.put,zq1,zq2,zq3,zq4,zq5,zq6];refine tks 12 hHeld ?_;simp only [Act.put,zq1,zq2,zq3,zq4,zq5,zq6];refine tks 13 hHeld ?_;simp only [Act.put,zq1,zq2,zq3,zq4,zq5,zq6];refine tks 14 hHeld ?_;simp only [Act.put,zq1,zq2,zq3,zq4,zq5,zq6];refine tkp 15 (.bool true) hHeld ?_;simp only [Act.put,zq1,zq2,zq3,zq4,zq5,zq6];refine wpAnyH_done (by kernel_rfl) ?_ _;clear d4;have BX2:=hidden (BX.out.grow (Below.refl _ _).drew);clear BX;have BX:=BX2;clear BX2;have HEQX:Hid True:=trivial;clear HEQX;have HKM:Hid (km=ks.length):=by
            obtain ⟨a',c',e⟩:=lst_slice HKP2.out.own;injection e
          have HSZ9:Hid (km≤65536):=by show km≤65536;rw [HKM.out];have:=HKP2.out.few;have:=HN.out;clear hwi hwi2;omega
          have HTK:Hid (∀w6 w' kv',Below w4.drew.heap.size w4.drew w6→Lst w' 198 34 kv' (km+1) (flatE encW ks++encW X)→w6.grownBy w' (Value.slice ka km kc).ownBlock→WhereL w6 (.slice ka km kc) kv'→Kpt w (.slice (some ⟨g,0,none⟩) n vc) ys j w' kv' (ks++[X])):=fun w6 w' kv' k0 k1 k2 k3=>by
            rw [HJ.out];rw [HKM.out] at k1;exact (HKP2.out.grow k0).take HKY.out S5.out HXG.out HXO.out HLT.out k1 k2 k3
          have HLS:Hid (∀w6,Below w4.drew.heap.size w4.drew w6→Lst w6 198 34 (.slice ka km kc) km (flatE encW ks)):=fun w6 k0=>by have:=lst_grow HKP2.out.own k0;rw [← HKM.out] at this;exact this
          have HIN:=hidden info_write;have HJN:Hid (j≤n):=by show j≤n;have:=HJ.out;clear hwi hwi2;omega
          clear hkp
          go_wp2_with (first
            |((with_reducible refine at_ldd 37 7 ?_);refine wpList_lds _ rfl _ _ rfl gq _ _ rfl BX.out HUW.out HSA.out ?_)
            |(refine wpList_bsw _ rfl _ rfl X rfl HXO.out.len ?_;intro w6 g6 hg6 B6 b6)
            |(refine wpList_appL _ rfl _ _ _ rfl 198 34 64 Tryz.underlying199 HIN.out (by omega) _ km (flatE encW ks) rfl (HLS.out _ b6) g6 (encW X) rfl B6 HXO.out.len HXO.out.one (by have:=HSZ9.out;simp only [maxLen];clear hwi hwi2;omega) (by have:=HSZ9.out;clear hwi hwi2;omega) ?_;intro kv' w7 k1 k2 k3;have HK3:=hidden (HTK.out w6 w7 kv' b6 k1 k2 k3);clear k2 k3;obtain ⟨ka',kc',rfl⟩:=lst_slice k1;clear k1))
          clear hwi hwi2;exact ⟨⟨j,ks++[X],by first | rfl | rw [hlast],HJN.out,⟨_,_,_,rfl⟩,HK3⟩,by have:=HJ.out;simp [intOf];omega⟩
        · have y1: ¬(j:Int)=(n:Int):=by clear hwi hwi2;omega
          have y1':((j:Int) == (n:Int))=false:=by simp;clear hwi hwi2;omega
          have hjn:j<n:=by have:=HJ.out;clear hwi hwi2;omega
          have y2:(0:Int)≤(j:Int):=by clear hwi hwi2;omega
          have y3:(j:Int)<(n:Int):=by clear hwi hwi2;omega
          have hjl:j<ys.length:=by have:=HN.out;clear hwi hwi2;omega
          obtain ⟨Y,hY⟩:∃Y,Y=ys[j]!:=⟨_,rfl⟩;have hYo:WtOk Y:=by rw [hY,getElem!_pos ys j hjl];exact S3.out _ (List.getElem_mem hjl)
          have HRY:Hid (∀w',Kb wr w'→w'.rangeAt g (j * 34) (encW Y)):=fun w' hb=>by
            have h1:=(lstE_range (by have:=(lst_grow hkp.out.srt hb);rw [HN.out.2.1] at this;exact this) HN.out.2.1 (fun x hx=>(S3.out x hx).len) j hjl).1;rw [hY,getElem!_pos ys j hjl];exact h1
          have HSY:Hid ((Tryz.prog.info? 198).map (·.size)=some (encW Y).length):=by show _=_;rw [hYo.len];exact size_write
          have HCB:Hid (∀w',Kc 249 #[.agg (encW X).toArray,.agg (encW Y).toArray] w' fun e w''=>e=.returned (.int .i64 (cmp X.k Y.k))∧Below w'.heap.size w' w''):=fun w'=>byKey_any X Y w' HXO.out hYo
          have HEQ:Hid (cmp X.k Y.k=0↔ ¬Ltr ys i):=by
            show _↔_;have e1:ky ys i=X.k:=ky_get HXG.out;have e2:ky ys (i+1)=Y.k:=by rw [← HJ.out];unfold ky;rw [← hY]
            have e3: ¬i+1=ys.length:=by have:=HJ.out;have:=HN.out;clear hwi hwi2;omega
            unfold Ltr;rw [e1,e2];rcases cmp_key HXO.out.hk hYo.hk with ⟨q,e⟩ | ⟨q,e⟩ | ⟨q,e⟩
            · exact ⟨fun _ h=>h.elim e3 (fun h=>h e),fun _=>q⟩
            · exact ⟨fun h=>by clear hwi hwi2;omega,fun h=>absurd (.inr (fun e4=>by rw [e4] at e;exact al_irr _ e)) h⟩
            · exact ⟨fun h=>by clear hwi hwi2;omega,fun h=>absurd (.inr (fun e4=>by rw [e4] at e;exact al_irr _ e)) h⟩
          obtain ⟨r,hr⟩:∃r,r=cmp X.k Y.k:=⟨_,rfl⟩;rw [← hr] at HCB HEQ;obtain ⟨d,hd⟩:∃d:Bool,d=!decide (r=0):=⟨_,rfl⟩;have HD:=hidden hd;have HRS:Hid (∀w',Kb w4 w'→w'.rangeAt gq 0 (encW X)∧w'.rangeAt g (j * 34) (encW Y)):=fun w' hb=>⟨(BX.out.grow hb).rngW,HRY.out _ (grow_trans d4 hb)⟩
          have d0:Kb w4 w4.drew:=(Below.refl _ _).drew;clear hr hd hY hYo hjl hjn;refine wp_region_held_drew (S:=fun w'=>w'.rangeAt gq 0 (encW X)∧w'.rangeAt g (j * 34) (encW Y)) (by kernel_rfl) (HRS.out _ d0) (fun hHeld=>?_);refine tkp 0 (.int .i64 (i:Int)) hHeld ?_;simp only [Act.put,zq1,zq2,zq4,zq5,zq6];refine tkp 1 (.int .i64 (j:Int)) hHeld ?_;simp only [Act.put,zq1,zq2,zq3,zq4,zq5,zq6];refine tkp 2 (.slice (some ⟨g,0,none⟩) n vc) hHeld ?_;simp only [Act.put,zq1,zq2,zq3,zq4,zq5,zq6];refine tkp 3 (.int .i64 (n:Int)) hHeld ?_;simp only [Act.put,zq1,zq2,zq3,zq4,zq5,zq6];refine tkp 4 (.bool false) hHeld ?_;simp only [Act.put,zq1,zq2,zq3,zq4,zq5,zq6];refine tkp 5 (.bool false) hHeld ?_;simp only [Act.put,zq1,zq2,zq3,zq4,zq5,zq6];refine tkp 6 (.func (.func 249) #[] #[]) hHeld ?_;simp only [Act.put,zq1,zq2,zq3,zq4,zq5,zq6];refine tkg 7 (.agg (encW X).toArray) rfl (yieldsIf_load_mid rfl 198 (.tmp 7) rfl gq 0 rfl (encW X) _ (fun w hS=>hS.1) HUW.out rfl HSX.out) hHeld ?_;simp only [Act.put,zq1,zq2,zq3,zq4,zq5,zq6];refine tkp 8 (.slice (some ⟨g,0,none⟩) n vc) hHeld ?_;simp only [Act.put,zq1,zq2,zq3,zq4,zq5,zq6];refine tkp 9 (.int .i64 (i:Int)) hHeld ?_;simp only [Act.put,zq1,zq2,zq3,zq4,zq5,zq6];refine tkp 10 (.int .i64 (j:Int)) hHeld ?_;simp only [Act.put,zq1,zq2,zq3,zq4,zq5,zq6];refine tkp 11 (.pointer (some ⟨g,j * 34,none⟩)) hHeld ?_;simp only [Act.put,zq1,zq2,zq3,zq4,zq5,zq6];refine tkg 12 (.agg (encW Y).toArray) rfl (yieldsIf_load_mid rfl 198 (.tmp 31) rfl g (j * 34) rfl (encW Y) _ (fun w hS=>hS.2) HUW.out rfl HSY.out) hHeld ?_;simp only [Act.put,zq1,zq2,zq3,zq4,zq5,zq6];refine wpAnyH_ready (rs:=[13]) (by kernel_rfl) (by simp) ?_;refine AllReadyH.cons rfl (fun KQ hK=>?_) AllReadyH.nil;go_simp;refine (HCB.out _).mono ?_;rintro e wx ⟨rfl,bx⟩;have d1:=grow_trans d0 bx;refine hK.out _ _ (HRS.out _ d1) (fun hHeld=>?_);clear hK KQ;refine tkg 14 (.bool d) rfl (Or.inl ⟨by rfl,fun w hS=>by (go_simp;first | rfl | (rw [HD.out];rfl) | (rw [HD.out];simp))⟩) hHeld ?_;simp only [Act.put,zq1,zq2,zq3,zq4,zq5,zq6];refine tkp 15 (.bool d) hHeld ?_;simp only [Act.put,zq1,zq2,zq3,zq4,zq5,zq6];refine wpAnyH_done (by kernel_rfl) ?_ _;clear HRS HCB HSY HRY
          by_cases hr0:r=0
          · obtain rfl:d=false:=by rw [HD.out];simp [hr0]
            have HK2:Hid (Kpt w (.slice (some ⟨g,0,none⟩) n vc) ys j wx (.slice ka km kc) ks):=by show Kpt _ _ _ _ _ _ _;rw [HJ.out];exact (hkp.out.grow (grow_trans d4 d1)).skip (HEQ.out.1 hr0)
            have HJN:Hid (j≤n):=by show j≤n;have:=HJ.out;clear hwi hwi2;omega
            clear HEQ HD hkp
            go_wp2_with fail
            clear hwi hwi2;exact ⟨⟨j,ks,rfl,HJN.out,⟨_,_,_,rfl⟩,HK2⟩,by have:=HJ.out;simp [intOf];omega⟩
          · obtain rfl:d=true:=by rw [HD.out];simp [hr0]
            have HLT:Hid (Ltr ys i):=Classical.byContradiction fun q=>hr0 (HEQ.out.2 q)
            have HKP2:=hidden (hkp.out.grow (grow_trans d4 d1));have BX2:=hidden (BX.out.grow d1);clear BX;have BX:=BX2;clear BX2;have HEQX:Hid True:=trivial;clear HEQ HD;clear HEQX;have HKM:Hid (km=ks.length):=by
              obtain ⟨a',c',e⟩:=lst_slice HKP2.out.own;injection e
            have HSZ9:Hid (km≤65536):=by show km≤65536;rw [HKM.out];have:=HKP2.out.few;have:=HN.out;clear hwi hwi2;omega
            have HTK:Hid (∀w6 w' kv',Kb wx w6→Lst w' 198 34 kv' (km+1) (flatE encW ks++encW X)→w6.grownBy w' (Value.slice ka km kc).ownBlock→WhereL w6 (.slice ka km kc) kv'→Kpt w (.slice (some ⟨g,0,none⟩) n vc) ys j w' kv' (ks++[X])):=fun w6 w' kv' k0 k1 k2 k3=>by
              rw [HJ.out];rw [HKM.out] at k1;exact (HKP2.out.grow k0).take HKY.out S5.out HXG.out HXO.out HLT.out k1 k2 k3
            have HLS:Hid (∀w6,Kb wx w6→Lst w6 198 34 (.slice ka km kc) km (flatE encW ks)):=fun w6 k0=>by have:=lst_grow HKP2.out.own k0;rw [← HKM.out] at this;exact this
            have HIN:=hidden info_write;have HJN:Hid (j≤n):=by show j≤n;have:=HJ.out;clear hwi hwi2;omega
            clear hkp
            go_wp2_with (first
              |((with_reducible refine at_ldd 37 7 ?_);refine wpList_lds _ rfl _ _ rfl gq _ _ rfl BX.out HUW.out HSA.out ?_)
              |(refine wpList_bsw _ rfl _ rfl X rfl HXO.out.len ?_;intro w6 g6 hg6 B6 b6)
              |(refine wpList_appL _ rfl _ _ _ rfl 198 34 64 Tryz.underlying199 HIN.out (by omega) _ km (flatE encW ks) rfl (HLS.out _ b6) g6 (encW X) rfl B6 HXO.out.len HXO.out.one (by have:=HSZ9.out;simp only [maxLen];clear hwi hwi2;omega) (by have:=HSZ9.out;clear hwi hwi2;omega) ?_;intro kv' w7 k1 k2 k3;have HK3:=hidden (HTK.out w6 w7 kv' b6 k1 k2 k3);clear k2 k3;obtain ⟨ka',kc',rfl⟩:=lst_slice k1;clear k1))
            clear hwi hwi2;exact ⟨⟨j,ks++[X],by first | rfl | rw [hlast],HJN.out,⟨_,_,_,rfl⟩,HK3⟩,by have:=HJ.out;simp [intOf];omega⟩
    · have z1: ¬(i:Int)<(n:Int):=by omega
      have HP:Hid (LatPost ls w (.returned (.slice ka km kc)) wr):=HPost.out _ ks ys _ _ (by rw [show ys.length=i by have:=HN.out;omega];exact hkp.out) HKY.out S5.out S4.out;clear hkp;go_wp2
      go_ret;exact HP.out

theorem keys_any (v:Value) (ls:List Wt) (w:World) (h:WrAt w v ls) (hn:ls.length≤65536):Kc 219 #[v] w fun e w'=>∃ks,Lat ls ks∧ks.length≤ls.length∧e=.returned (.int .i64 (ks.length:Int))∧Kb w w':=by
  have HC:=hidden (latest_any v ls w h hn);clear h hn;go_enter Tryz.func219,Tryz.ntmps219
  go_wp2_with (go_at_call 197;refine HC.out.mono ?_;rintro e w1 ⟨v1,ks,rfl,c1,c2,c3,c4,c5⟩;have C1:=hidden c1;have C4:=hidden c4;have C5:=hidden c5;obtain ⟨va,vc,rfl⟩:=lst_slice c2;clear c1 c2 c3 c4 c5)
  go_ret;exact ⟨ks,C1.out,C4.out,rfl,C5.out⟩

end Go.Proofs.YtdjpigfibafokaaGreatDoor

namespace Go.Proofs.YtdjpigfibafokaaGreatDoor
variable {bp d h hi i lo:Nat}
variable {cs:Lz}
variable {kv lv sv:Value}
variable {q:Int}
variable {w w' w0 w1 w4 wa:World}
set_option maxHeartbeats 8000000
set_option maxRecDepth 20000
open Go.RowKit

def LastAt (ls:List Wt) (i:Nat):Prop:=∀q,i<q→q<ls.length→ky ls q≠ky ls i
structure RoI (ls:List Wt) (i:Nat) (rs:List Wt):Prop where
  ris:Ris rs
  mem:∀y,y∈rs.map nrm↔∃j x,j<i∧ls[j]?=some x∧LastAt ls j∧nrm x=y
def asW (e:Lq×Lq) (v:Value):Wt:=⟨e.1,false,e.2,v⟩
def entW (rs:List Wt):List (Lq×Lq):=(rs.filter fun x=>!x.g).map fun x=>(x.k,x.b)
end Go.Proofs.YtdjpigfibafokaaGreatDoor

namespace Go.Proofs.YtdjpigfibafokaaGreatDoor
variable {bp d h hi i lo:Nat}
variable {cs:Lz}
variable {kv lv sv:Value}
variable {q:Int}
variable {w w' w0 w1 w4 wa:World}
set_option maxHeartbeats 8000000
set_option maxRecDepth 20000
open Go.RowKit

def WtOk0 (x:Wt):Prop:=Key x.k∧Bytes x.b∧(x.g=false→x.b.length≤1024)

structure Pn where
  inn:Bool
  w:Wt
  dp:Nat
  l:Int
  r:Int
instance:Inhabited Pn:=⟨⟨false,default,0,0,0⟩⟩
def wtZ:Wt:=⟨z32,false,[],.slice none 0 0⟩
def pnL (x:Wt):Pn:=⟨false,x,0,0,0⟩
def pnI (d:Nat) (a b:Int):Pn:=⟨true,wtZ,d,a,b⟩

inductive Gt where
  | old (h:Nat) (T:Tre):Gt
  | lf (x:Wt):Gt
  | nd (d:Nat) (L R:Gt):Gt
def Gt.ents:Gt→List Ent
  | .old _ T=>T.ents
  | .lf x=>[(x.k,x.b)]
  | .nd _ L R=>L.ents++R.ents
def Gt.olds:Gt→List Nat
  | .old h _=>[h]
  | .lf _=>[]
  | .nd _ L R=>L.olds++R.olds
def Tre.nds:Tre→List (Option Nat×List Ent)
  | .emp=>[]
  | .lf k b=>[(none,[(k,b)])]
  | .nd d _ _ l r=>(some d,l.ents++r.ents)::(l.nds++r.nds)
def Gt.pnd:Gt→List (Option Nat×List Ent)
  | .old _ _=>[]
  | .lf x=>[(none,[(x.k,x.b)])]
  | .nd d L R=>(some d,L.ents++R.ents)::(L.pnd++R.pnd)
def Gt.ond:Gt→List (Option Nat×List Ent)
  | .old _ T=>T.nds
  | .lf _=>[]
  | .nd _ L R=>L.ond++R.ond
def Gt.isI (cs:Lz):Gt→Bool
  | .old h _=>(sdC cs h).kind == 2
  | .lf _=>false
  | .nd _ _ _=>true

def IsG (cs:Lz) (ps:List Pn):Nat→Nat→Int→Gt→Prop
  | lo,hi,q,.old h T=>q=(h:Int)∧hi=lo∧IsT cs h T
  | lo,hi,q,.lf x=>q= -((lo:Int)+1)∧hi=lo+1∧ps[lo]?=some (pnL x)
  | lo,hi,q,.nd d L R=>∃(m n:Nat) (a b:Int),hi=n+1∧q= -((n:Int)+1)∧ps[n]?=some (pnI d a b)∧IsG cs ps lo m a L∧IsG cs ps m n b R

theorem IsG.le {cs:Lz} {ps:List Pn}:∀ {G:Gt} {lo hi:Nat} {q:Int},IsG cs ps lo hi q G→lo≤hi
  | .old _ _,_,_,_,h=>by have:=h.2.1;omega
  | .lf _,_,_,_,h=>by have:=h.2.1;omega
  | .nd _ _ _,_,_,_,h=>by
    obtain ⟨m,n,a,b,h1,_,_,h4,h5⟩:=h;have:=IsG.le h4;have:=IsG.le h5;omega
theorem IsG.more {cs:Lz} {ps:List Pn} (ns:List Pn):∀ {G:Gt} {lo hi:Nat} {q:Int},IsG cs ps lo hi q G→IsG cs (ps++ns) lo hi q G
  | .old _ _,_,_,_,h=>h
  | .lf x,lo,_,_,h=>by
    refine ⟨h.1,h.2.1,?_⟩;rw [List.getElem?_append_left (List.getElem?_eq_some_iff.1 h.2.2).1];exact h.2.2
  | .nd _ _ _,_,_,_,h=>by
    obtain ⟨m,n,a,b,h1,h2,h3,h4,h5⟩:=h;refine ⟨m,n,a,b,h1,h2,?_,IsG.more ns h4,IsG.more ns h5⟩;rw [List.getElem?_append_left (List.getElem?_eq_some_iff.1 h3).1];exact h3
theorem IsG.nat {ps:List Pn} {G:Gt} (h:IsG cs ps lo hi q G) (hq:0≤q):∃T,G=.old q.toNat T∧hi=lo∧IsT cs q.toNat T:=by
  cases G with
  | old x T=>
    obtain ⟨h1,h2,h3⟩:=h;subst h1;exact ⟨T,rfl,h2,h3⟩
  | lf x=>have:=h.1;omega
  | nd d L R=>
    obtain ⟨m,n,a,b,h1,h2,_⟩:=h;omega

theorem IsG.part {ps:List Pn} {G:Gt} (h:IsG cs ps lo hi q G): -q≤(hi:Int):=by
  cases G with
  | old x T=>
    have:=h.1;omega
  | lf x=>
    have:=h.1;have:=h.2.1;omega
  | nd d L R=>
    obtain ⟨m,n,a,b,h1,h2,_⟩:=h;omega

def kdP (cs:Lz) (ps:List Pn) (q:Int):Int:=if q<0 then (if (ps[(-q-1).toNat]!).inn then 2 else 1) else (sdC cs q.toNat).kind
theorem IsG.kd {ps:List Pn} {G:Gt} (h:IsG cs ps lo hi q G):kdP cs ps q=2↔G.isI cs=true:=by
  cases G with
  | old x T=>
    obtain ⟨h1,h2,h3⟩:=h;subst h1;rw [kdP,if_neg (by omega)];simp [Gt.isI]
  | lf x=>
    obtain ⟨h1,h2,h3⟩:=h;rw [kdP,if_pos (by omega),show (-q-1).toNat=lo by omega,List.getElem!_eq_getElem?_getD,h3];simp [pnL,Gt.isI]
  | nd d L R=>
    obtain ⟨m,n,a,b,h1,h2,h3,_⟩:=h;rw [kdP,if_pos (by omega),show (-q-1).toNat=n by omega,List.getElem!_eq_getElem?_getD,h3];simp [pnI,Gt.isI]

def GOk (cs:Lz):Nat→Gt→Prop
  | d,.old h _=>(sdC cs h).kind=2→(sdC cs h).dp=d
  | _,.lf x=>WtOk0 x∧x.g=false
  | d,.nd e L R=>e=d∧d<256∧GOk cs (d+1) L∧GOk cs (d+1) R∧(∀x∈L.ents,kb x.1 d=0)∧(∀x∈R.ents,kb x.1 d=1)∧2≤(L.ents++R.ents).length

def ovE (E:List Ent) (l:List Wt):List Ent:=E.filter (fun e=>!(l.any fun x=>x.k == e.1))++entW l

theorem ovE_nil (E:List Ent):ovE E []=E:=by simp [ovE,entW]
def Com (d:Nat) (ks:List (Lq)):Prop:=∀a∈ks,∀b∈ks,∀j,j<d→kb a j=kb b j
theorem Com.sub {ks js:List (Lq)} (h:Com d ks) (hs:∀a∈js,a∈ks):Com d js:=fun a ha b hb j hj=>h a (hs a ha) b (hs b hb) j hj
theorem Com.succ {ks:List (Lq)} (h:Com d ks) (c:Int) (hc:∀a∈ks,kb a d=c):Com (d+1) ks:=fun a ha b hb j hj=>by
  by_cases e:j=d
  · rw [e,hc a ha,hc b hb]
  · exact h a ha b hb j (by omega)

def wsd (l:List Wt) (d:Nat) (b:Int):List Wt:=l.filter fun x=>kb x.k d == b
def frkL (cs:Lz) (h d:Nat):Nat:=if (sdC cs h).kind=2 then (sdC cs h).l else if kb (sdC cs h).key d=1 then 0 else h
def frkR (cs:Lz) (h d:Nat):Nat:=if (sdC cs h).kind=2 then (sdC cs h).r else if kb (sdC cs h).key d=1 then h else 0
def Plc (cs:Lz) (h:Nat) (k:Lq):Prop:=h=0∨(sdC cs h).kind=1∧(sdC cs h).key=k
def jnQ (cs:Lz) (ps:List Pn) (a b:Int):Int:=if a=0∧kdP cs ps b≠2 then b else if b=0∧kdP cs ps a≠2 then a else -((ps.length:Int)+1)
def jnP (cs:Lz) (ps:List Pn) (d:Nat) (a b:Int):List Pn:=if a=0∧kdP cs ps b≠2 then ps else if b=0∧kdP cs ps a≠2 then ps else ps++[pnI d a b]

inductive Grw (cs:Lz):Nat→Nat→List Wt→List Pn→Int→List Pn→Prop
  | none {d h:Nat} {ps:List Pn}:Grw cs d h [] ps (h:Int) ps
  | gone {d h:Nat} {x:Wt} {ps:List Pn}:Plc cs h x.k→x.g=true→Grw cs d h [x] ps 0 ps
  | same {d h:Nat} {x:Wt} {ps:List Pn}:Plc cs h x.k→x.g=false→h≠0→(sdC cs h).bs=x.b→Grw cs d h [x] ps (h:Int) ps
  | leaf {d h:Nat} {x:Wt} {ps:List Pn}:Plc cs h x.k→x.g=false→ ¬(h≠0∧(sdC cs h).bs=x.b)→Grw cs d h [x] ps (-((ps.length:Int)+1)) (ps++[pnL x])
  | stay {d h:Nat} {l:List Wt} {ps p1 p2:List Pn}:l≠[]→(∀x,l=[x]→ ¬Plc cs h x.k)→Grw cs (d+1) (frkL cs h d) (wsd l d 0) ps (frkL cs h d:Nat) p1→Grw cs (d+1) (frkR cs h d) (wsd l d 1) p1 (frkR cs h d:Nat) p2→Grw cs d h l ps (h:Int) p2
  | join {d h:Nat} {l:List Wt} {ps p1 p2:List Pn} {a b:Int}:l≠[]→(∀x,l=[x]→ ¬Plc cs h x.k)→Grw cs (d+1) (frkL cs h d) (wsd l d 0) ps a p1→Grw cs (d+1) (frkR cs h d) (wsd l d 1) p1 b p2→ ¬(a=(frkL cs h d:Nat)∧b=(frkR cs h d:Nat))→Grw cs d h l ps (jnQ cs p2 a b) (jnP cs p2 d a b)

structure GPre (cs:Lz) (d h:Nat) (T:Tre) (l:List Wt):Prop where
  tree:IsT cs h T
  dp:(sdC cs h).kind=2→(sdC cs h).dp=d
  ris:Ris l
  ok:∀x∈l,WtOk0 x
  com:Com d (T.ents.map (·.1)++l.map (·.k))
  d:d≤256

theorem ris_filter {l:List Wt} (h:Ris l) (p:Wt→Bool):Ris (l.filter p):=List.Pairwise.filter p h
theorem ris_two {l:List Wt} (h:Ris l) (hc:Com d (l.map (·.k))) (hd:256≤d):l.length≤1:=by
  match l,h with
  | [],_=>simp
  | [_],_=>simp
  | x::y::r,h=>
    have h1:=(List.pairwise_cons.1 h).1 y (by simp);obtain ⟨c,hc2,_,h3,h4⟩:=h1;have:=hc x.k (by simp) y.k (by simp) c (by omega);omega

theorem IsT.cases {T:Tre} (t:IsT cs h T):(h=0∧T=.emp)∨(h≠0∧(sdC cs h).kind=1∧T=.lf (sdC cs h).key (sdC cs h).bs)∨(h≠0∧(sdC cs h).kind=2∧∃L R,T=.nd (sdC cs h).dp (sdC cs h).l (sdC cs h).r L R∧IsT cs (sdC cs h).l L∧IsT cs (sdC cs h).r R):=by
  cases T with
  | emp=>exact .inl ⟨t,rfl⟩
  | lf k b=>
    obtain ⟨h1,h2,h3,h4,h5⟩:=t;have e:sdC cs h=ce cs (h-1):=if_neg (by omega);exact .inr (.inl ⟨by omega,by rw [e];exact h3,by rw [e,h4,h5]⟩)
  | nd d hl hr L R=>
    obtain ⟨h1,h2,h3,h4,h5,h6,h7,h8⟩:=t;have e:sdC cs h=ce cs (h-1):=if_neg (by omega);exact .inr (.inr ⟨by omega,by rw [e];exact h3,L,R,by rw [e,h4,h5,h6],by rw [e,h5];exact h7,by rw [e,h6];exact h8⟩)

structure GSd (cs:Lz) (d h:Nat) (T:Tre) (l:List Wt) (TL TR:Tre):Prop where
  lt:d<256
  ents:T.ents=TL.ents++TR.ents
  bl:∀e∈TL.ents,kb e.1 d=0
  br:∀e∈TR.ents,kb e.1 d=1
  nds:∀z∈T.nds,z∈TL.nds∨z∈TR.nds∨z=(some d,T.ents)
  sub:∀z,z∈TL.nds∨z∈TR.nds→z∈T.nds
  pl:GPre cs (d+1) (frkL cs h d) TL (wsd l d 0)
  pr:GPre cs (d+1) (frkR cs h d) TR (wsd l d 1)

theorem gsd_of (W:Wf cs []) {d h:Nat} {T:Tre} {l:List Wt} (p:GPre cs d h T l) (h0:l≠[]) (hp:∀x,l=[x]→ ¬Plc cs h x.k):∃TL TR,GSd cs d h T l TL TR:=by
  have tqq:=tree_ok W T h p.tree;have hd:d<256:=by
    apply Nat.lt_of_not_le;intro hd;have h1:=ris_two p.ris (p.com.sub fun a ha=>by simp [ha]) hd;obtain ⟨x,rfl⟩:∃x,l=[x]:=by
      match l,h0,h1 with
      | [x],_,_=>exact ⟨x,rfl⟩
      | _::_::_,_,h1=>simp at h1
    refine hp x rfl ?_;rcases p.tree.cases with ⟨e,_⟩ | ⟨e0,e1,e2⟩ | ⟨e0,e1,L,R,e2,_⟩
    · exact .inl e
    · refine .inr ⟨e1,?_⟩
      subst e2;have hk:=(tqq.ent _ (by simp [Tre.ents]:((sdC cs h).key,(sdC cs h).bs)∈_)).1;refine key_ext hk (p.ok x (by simp)).1 fun j hj=>?_
      exact p.com _ (by simp [Tre.ents]) _ (by simp) j (by omega)
    · subst e2
      have n:=nd_ok W p.tree;have:=n.dp;have:=p.dp e1;omega
  have sides:∀(TL TR:Tre),T.ents=TL.ents++TR.ents→(∀z∈T.nds,z∈TL.nds∨z∈TR.nds∨z=(some d,T.ents))→(∀z,z∈TL.nds∨z∈TR.nds→z∈T.nds)→IsT cs (frkL cs h d) TL→IsT cs (frkR cs h d) TR→(∀e∈TL.ents,kb e.1 d=0)→(∀e∈TR.ents,kb e.1 d=1)→((sdC cs (frkL cs h d)).kind=2→(sdC cs (frkL cs h d)).dp=d+1)→((sdC cs (frkR cs h d)).kind=2→(sdC cs (frkR cs h d)).dp=d+1)→GSd cs d h T l TL TR:=fun TL TR he n1 n2 tl tr bl br kl kr=>by
    refine ⟨hd,he,bl,br,n1,n2,⟨tl,kl,ris_filter p.ris _,fun x hx=>p.ok x (List.mem_filter.1 hx).1,?_,by omega⟩,⟨tr,kr,ris_filter p.ris _,fun x hx=>p.ok x (List.mem_filter.1 hx).1,?_,by omega⟩⟩
    · refine Com.succ (p.com.sub fun a ha=>?_) 0 fun a ha=>?_
      · rcases List.mem_append.1 ha with q | q
        · rw [he,List.map_append]
          exact List.mem_append_left _ (List.mem_append_left _ q)
        · obtain ⟨x,hx,rfl⟩:=List.mem_map.1 q
          exact List.mem_append_right _ (List.mem_map_of_mem (List.mem_filter.1 hx).1)
      · rcases List.mem_append.1 ha with q | q
        · obtain ⟨e,he2,rfl⟩:=List.mem_map.1 q
          exact bl e he2
        · obtain ⟨x,hx,rfl⟩:=List.mem_map.1 q
          simpa using (List.mem_filter.1 hx).2
    · refine Com.succ (p.com.sub fun a ha=>?_) 1 fun a ha=>?_
      · rcases List.mem_append.1 ha with q | q
        · rw [he,List.map_append]
          exact List.mem_append_left _ (List.mem_append_right _ q)
        · obtain ⟨x,hx,rfl⟩:=List.mem_map.1 q
          exact List.mem_append_right _ (List.mem_map_of_mem (List.mem_filter.1 hx).1)
      · rcases List.mem_append.1 ha with q | q
        · obtain ⟨e,he2,rfl⟩:=List.mem_map.1 q
          exact br e he2
        · obtain ⟨x,hx,rfl⟩:=List.mem_map.1 q
          simpa using (List.mem_filter.1 hx).2
  have z2: ¬(sdC cs 0).kind=2:=by show ¬zc.kind=2;decide
  rcases p.tree.cases with ⟨e,e2⟩ | ⟨e0,e1,e2⟩ | ⟨e0,e1,L,R,e2,e3,e4⟩
  · subst e
    have fl:frkL cs 0 d=0:=by unfold frkL;rw [if_neg z2];split <;> rfl
    have fr:frkR cs 0 d=0:=by unfold frkR;rw [if_neg z2];split <;> rfl
    refine ⟨.emp,.emp,sides _ _ (by rw [e2];rfl) (by rw [e2];exact fun z hz=>.inl hz) (by rw [e2];exact fun z hz=>hz.elim id id) (by rw [fl];rfl) (by rw [fr];rfl) (fun e he=>by cases he) (fun e he=>by cases he) (by rw [fl];exact fun k=>absurd k z2) (by rw [fr];exact fun k=>absurd k z2)⟩
  · rcases kb_two (sdC cs h).key d with q | q
    · have fl:frkL cs h d=h:=by unfold frkL;rw [if_neg (by omega),if_neg (by omega)]
      have fr:frkR cs h d=0:=by unfold frkR;rw [if_neg (by omega),if_neg (by omega)]
      refine ⟨T,.emp,sides _ _ (by simp [Tre.ents]) (fun z hz=>.inl hz) (fun z hz=>hz.elim id fun q=>by cases q) (by rw [fl];exact p.tree) (by rw [fr];rfl) (fun e he=>?_) (fun e he=>by cases he) (by rw [fl];exact fun k=>by omega) (by rw [fr];exact fun k=>absurd k z2)⟩;rw [e2] at he;obtain rfl:e=((sdC cs h).key,(sdC cs h).bs):=by simpa [Tre.ents] using he
      exact q
    · have fl:frkL cs h d=0:=by unfold frkL;rw [if_neg (by omega),if_pos q]
      have fr:frkR cs h d=h:=by unfold frkR;rw [if_neg (by omega),if_pos q]
      refine ⟨.emp,T,sides _ _ (by simp [Tre.ents]) (fun z hz=>.inr (.inl hz)) (fun z hz=>hz.elim (fun q=>by cases q) id) (by rw [fl];rfl) (by rw [fr];exact p.tree) (fun e he=>by cases he) (fun e he=>?_) (by rw [fl];exact fun k=>absurd k z2) (by rw [fr];exact fun k=>by omega)⟩;rw [e2] at he;obtain rfl:e=((sdC cs h).key,(sdC cs h).bs):=by simpa [Tre.ents] using he
      exact q
  · have fl:frkL cs h d=(sdC cs h).l:=by unfold frkL;rw [if_pos e1]
    have fr:frkR cs h d=(sdC cs h).r:=by unfold frkR;rw [if_pos e1]
    have hdp:=p.dp e1;have t:=p.tree;rw [e2,hdp] at t;have n:=nd_ok W t;exact ⟨L,R,sides _ _ (by rw [e2];rfl) (fun z hz=>by
      rw [e2,hdp] at hz;rcases List.mem_cons.1 hz with q | q
      · rw [q,e2]
        exact .inr (.inr rfl)
      · rcases List.mem_append.1 q with q | q
        · exact .inl q
        · exact .inr (.inl q)) (fun z hz=>by
      rw [e2];exact List.mem_cons_of_mem _ (List.mem_append.2 hz)) (by rw [fl];exact e3) (by rw [fr];exact e4) n.bL n.bR (by rw [fl];exact n.kl) (by rw [fr];exact n.kr)⟩

end Go.Proofs.YtdjpigfibafokaaGreatDoor

namespace Go.Proofs.YtdjpigfibafokaaGreatDoor
variable {bp d h hi i lo:Nat}
variable {cs:Lz}
variable {kv lv sv:Value}
variable {q:Int}
variable {w w' w0 w1 w4 wa:World}
set_option maxHeartbeats 8000000
set_option maxRecDepth 20000
open Go.RowKit

def encPl (n:Pn):List Value:=Value.int .u8 (if n.inn then 2 else 1)::(encW n.w++[.int .i64 (n.dp:Int),.int .i64 n.l,.int .i64 n.r])

theorem encPl_len {n:Pn} (h:WtOk n.w):(encPl n).length=38:=by simp [encPl,h.len]
theorem encPl_one {n:Pn} (h:WtOk n.w):∀u∈encPl n,u.oneCell'=true:=fun u hu=>by
  unfold encPl at hu;rcases List.mem_cons.1 hu with rfl | hu
  · rfl
  · rcases List.mem_append.1 hu with hu | hu
    · exact h.one u hu
    · simp only [List.mem_cons,List.not_mem_nil,or_false] at hu
      rcases hu with rfl | rfl | rfl <;> rfl
theorem wtZ_ok:WtOk wtZ:=zW_ok

theorem size_pl:(Tryz.prog.info? 333).map (·.size)=some 38:=by kernel_rfl

theorem info_pl:∃i z,Tryz.prog.info? 333=some i∧i.zero=some z∧i.size=38∧i.bytes=96∧z.cells.size=38:=by
  refine ⟨_,_,rfl,rfl,?_,?_,?_⟩ <;> kernel_rfl

def pnPlaces:Nat→Option (Nat×Nat):=fun i=>(#[(0,1),(1,34),(35,1),(36,1),(37,1)]:Array (Nat×Nat))[i]?

def zPl (k:Int) (e:List Value) (d a b:Int):List Value:=Value.int .u8 k::(e++[.int .i64 d,.int .i64 a,.int .i64 b])

theorem built_pnE (ps:List (Nat×Value)):Tryz.prog.built 333 ps=Instr.fill pnPlaces (zPl 0 (encW wtZ) 0 0 0).toArray ps:=by kernel_rfl

theorem zPl_len (k:Int) (e:List Value) (d a b:Int) (h:e.length=34):(zPl k e d a b).length=38:=by simp [zPl,h]
theorem fp_mid (i off n:Nat) (v:Value) (p q r xs:List Value) (rest:List (Nat×Value)) (hi:pnPlaces i=some (off,n)) (hv:v.cells=xs.toArray) (hx:xs.length=n) (hp:p.length=off) (hq:q.length=n):Instr.fill pnPlaces (p++(q++r)).toArray ((i,v)::rest)=Instr.fill pnPlaces (p++(xs++r)).toArray rest:=by
  rw [fill_one pnPlaces i off n v xs _ rest hi hv hx (by simp;omega),← hp,List.take_left' rfl,List.append_assoc,show p.length+n=(p++q).length by simp [hq],← List.append_assoc p q r,List.drop_left' rfl]
theorem fp_kind (k k':Int) (e:List Value) (d a b:Int) (rest:List (Nat×Value)):Instr.fill pnPlaces (zPl k e d a b).toArray ((0,.int .u8 k')::rest)=Instr.fill pnPlaces (zPl k' e d a b).toArray rest:=
  fp_mid 0 0 1 _ [] [Value.int .u8 k] _ [Value.int .u8 k'] rest rfl rfl rfl rfl rfl
theorem fp_w (k:Int) (e e':List Value) (d a b:Int) (h:e.length=34) (h':e'.length=34) (rest:List (Nat×Value)):Instr.fill pnPlaces (zPl k e d a b).toArray ((1,.agg e'.toArray)::rest)=Instr.fill pnPlaces (zPl k e' d a b).toArray rest:=
  fp_mid 1 1 34 _ [Value.int .u8 k] e _ e' rest rfl rfl h' rfl h
theorem fp_d (k:Int) (e:List Value) (d d' a b:Int) (h:e.length=34) (rest:List (Nat×Value)):Instr.fill pnPlaces (zPl k e d a b).toArray ((2,.int .i64 d')::rest)=Instr.fill pnPlaces (zPl k e d' a b).toArray rest:=by
  have:=fp_mid 2 35 1 (.int .i64 d') (Value.int .u8 k::e) [Value.int .i64 d] [.int .i64 a,.int .i64 b] [Value.int .i64 d'] rest rfl rfl rfl (by simp [h]) rfl;simpa [zPl] using this
theorem fp_a (k:Int) (e:List Value) (d a a' b:Int) (h:e.length=34) (rest:List (Nat×Value)):Instr.fill pnPlaces (zPl k e d a b).toArray ((3,.int .i64 a')::rest)=Instr.fill pnPlaces (zPl k e d a' b).toArray rest:=by
  have:=fp_mid 3 36 1 (.int .i64 a') (Value.int .u8 k::(e++[.int .i64 d])) [Value.int .i64 a] [.int .i64 b] [Value.int .i64 a'] rest rfl rfl rfl (by simp [h]) rfl;simpa [zPl] using this
theorem fp_b (k:Int) (e:List Value) (d a b b':Int) (h:e.length=34) (rest:List (Nat×Value)):Instr.fill pnPlaces (zPl k e d a b).toArray ((4,.int .i64 b')::rest)=Instr.fill pnPlaces (zPl k e d a b').toArray rest:=by
  have:=fp_mid 4 37 1 (.int .i64 b') (Value.int .u8 k::(e++[.int .i64 d,.int .i64 a])) [Value.int .i64 b] [] [Value.int .i64 b'] rest rfl rfl rfl (by simp [h]) rfl;simpa [zPl] using this

theorem built_pnL (x:Wt) (h:WtOk x):Tryz.prog.built 333 [(0,.int .u8 1),(1,.agg (encW x).toArray)]=some (encPl (pnL x)).toArray:=by
  rw [built_pnE];exact (fp_kind 0 1 _ 0 0 0 _).trans (fp_w 1 _ (encW x) 0 0 0 wtZ_ok.len h.len [])

theorem built_pnI (d:Nat) (a b:Int):Tryz.prog.built 333 [(0,.int .u8 2),(2,.int .i64 (d:Int)),(3,.int .i64 a),(4,.int .i64 b)]=some (encPl (pnI d a b)).toArray:=by
  rw [built_pnE];exact (fp_kind 0 2 _ 0 0 0 _).trans ((fp_d 2 _ 0 (d:Int) 0 0 wtZ_ok.len _).trans ((fp_a 2 _ (d:Int) 0 a 0 wtZ_ok.len _).trans (fp_b 2 _ (d:Int) a 0 b wtZ_ok.len [])))

structure PlM (wa w:World) (bp:Nat) (sv:Value) (ps:List Pn) (lv:Value):Prop where
  blk:Blk w bp 279 #[sv,lv]
  lst:w.ownsRow wa.heap.size 333 38 lv ps.length (flatE encPl ps)
  ok:∀n∈ps,WtOk n.w
  mod:Mod [bp] wa w

theorem PlM.grow {ps:List Pn} (h:PlM wa w bp sv ps lv) (hb:Kb w w'):PlM wa w' bp sv ps lv:=⟨h.blk.grow hb,owR_grow h.lst hb,h.ok,h.mod.trans' (Mod.of_below hb _)⟩
theorem PlM.cells {ps:List Pn} (h:PlM wa w bp sv ps lv):w.cell? ⟨bp,0,none⟩=some sv∧w.cell? ⟨bp,1,none⟩=some lv:=by
  rw [h.blk.cell,h.blk.cell];exact ⟨rfl,rfl⟩
theorem PlM.lne {ps:List Pn} (h:PlM wa w bp sv ps lv):lv.ownBlock≠some bp:=lst_blk_ne (owR_lst h.lst) h.blk (by decide)
theorem PlM.at {ps:List Pn} (h:PlM wa w bp sv ps lv) {i:Nat} (hi:i<ps.length):∃g c,lv=.slice (some ⟨g,0,none⟩) ps.length c∧w.rangeAt g (i * 38) (encPl ps[i]):=by
  obtain ⟨g,c,rfl,_⟩:=lst_pos (owR_lst h.lst) (by omega);exact ⟨g,c,rfl,(lstE_range (owR_lst h.lst) rfl (fun x hx=>encPl_len (h.ok x hx)) i hi).1⟩
theorem PlM.snoc {ps:List Pn} {lv':Value} (h:PlM wa w bp sv ps lv) (hb:Kb w w1) (hg:w1.grownBy w4 lv.ownBlock) (n:Pn) (hn:WtOk n.w) (ho:Lst w4 333 38 lv' (ps.length+1) (flatE encPl ps++encPl n)) (hw:WhereL w1 lv lv'):PlM wa (w4.setCell ⟨bp,1,none⟩ lv') bp sv (ps++[n]) lv':=by
  have h1:=h.grow hb;have md:Mod lv.ownBlock.toList w1 w4:=Mod.of_grown hg (fun k hk=>by simp [hk]);have hnb:bp ∉ lv.ownBlock.toList:=fun q=>h.lne (by simpa using q)
  have B4:Blk w4 bp 279 #[sv,lv]:=h1.blk.mod md hnb;have m5:Mod [bp] w4 (w4.setCell ⟨bp,1,none⟩ lv'):=Mod.setCell _ _ _ _ (by simp);have ln:=lst_blk_ne ho B4 (by decide);have hbase:∀g,lv'.ownBlock=some g→wa.heap.size≤g:=fun g hg'=>by
    rcases hw with e | ⟨k,e,hk⟩
    · rw [e] at hg'
      exact (h.lst.lt g hg').1
    · rw [e] at hg'
      injection hg' with hg';have:=h1.mod.size;omega
  have ho2:w4.ownsRow wa.heap.size 333 38 lv' (ps.length+1) (flatE encPl ps++encPl n):=by
    refine ⟨ho.1,ho.2.imp id ?_⟩;rintro ⟨g,cap,cur,rfl,_,rest⟩;exact ⟨g,cap,cur,rfl,hbase g rfl,rest⟩
  refine ⟨?_,?_,fun x hx=>?_,(h1.mod.trans (fun k hk=>.inr (h1.lst.lt k (by simpa using hk)).1) md).trans' m5⟩
  · have:=B4.set 1 lv'
    simpa using this
  · rw [List.length_append,List.length_singleton,flatE_snoc]
    exact owR_mod ho2 m5 (fun g hg e=>ln (by have e':g=bp:=(by simpa using e);rw [← e'];exact hg))
  · rcases List.mem_append.1 hx with q | q
    · exact h.ok x q
    · obtain rfl:x=n:=by simpa using q
      exact hn

theorem step_bsp1 {ops:Array Oper} {op:Oper} {a:Act} {K:Act→World→Prop} {Q:Exit→Act→World→Prop} {E:Prop} (w:World) (hgd:op.guard=none) (x:Operand) (ho:op.op=.buildSlice 277 1 #[(0,x)])
    (X:List Value) (hx:a.eval x=.agg X.toArray) (hl:X.length=38)
    (hk:K (a.put op.dst (.slice (some ⟨w.heap.size,0,none⟩) 1 1)) (w.alloc (.cells X.toArray 333))):if Region.wanted op (yielded ops a.tmps)=true then Oper.wp Tryz.prog op a w K Q else E:=by
  have hw:Region.wanted op (yielded ops a.tmps)=true:=by simp [Region.wanted,hgd]
  rw [if_pos hw];obtain ⟨i,z,hi,hz,hs,_,hzs⟩:=info_pl;have hrun:=run_buildSlice (P:=Tryz.prog) w 277 333 1 #[(0,.agg X.toArray)] X.toArray i z Tryz.underlying277 hi hz (by rw [hs];omega) (by rw [hs];omega) (by
    rw [hs];obtain ⟨zs,hzz,hzl⟩:∃zs:List Value,(Array.range (1 * 38)).map (z.cells[· % z.cells.size]!)=zs.toArray∧zs.length=38:=⟨_,(Array.toArray_toList).symm,by simp⟩;rw [hzz];have:=fill_one (fun i=>some (i * 38,38)) 0 0 38 (.agg X.toArray) X zs [] rfl rfl hl (by omega);rw [show (#[(0,Value.agg X.toArray)]:Array (Nat×Value)).toList=[(0,Value.agg X.toArray)] from rfl,this,Instr.fill];simp [hzl])
  unfold Oper.wp execOp;simp only [ho,List.map_toArray,List.map_cons,List.map_nil,hx,Sem.run_bind,hrun,Result.andThen_ok,Sem.run_pure];exact hk

theorem step_appL11 {P:Program} {ops:Array Oper} {o:Oper} {a:Act} {K:Act→World→Prop} {Q:Exit→Act→World→Prop} {E:Prop} (w:World) (hgd:o.guard=none) (s x:Operand) (t:TypeId)
    (ho:o.op=.call { callee:=.builtin .append,args:= #[s,x],argTypes:= #[t,t]})
    (e:TypeId) (size bytes:Nat) (ht:P.underlying t=some (.slice e)) (hin:∃i z,P.info? e=some i∧i.zero=some z∧i.size=size∧i.bytes=bytes∧z.cells.size=size) (hsz:0<size)
    (v:Value) (n:Nat) (xs:List Value) (hs:a.eval s=v) (hown:Lst w e size v n xs)
    (g:Nat) (news:List Value) (hx:a.eval x=.slice (some ⟨g,0,none⟩) 1 1) (hb:Blk w g e news.toArray) (hl:news.length=size) (h1:∀u∈news,u.oneCell'=true)
    (h63:n+1≤maxLen) (hbytes:(n+1) * bytes≤140737488355328)
    (hk:∀v' w',Lst w' e size v' (n+1) (xs++news)→w.grownBy w' v.ownBlock→WhereL w v v'→K (a.put o.dst v') w'):if Region.wanted o (yielded ops a.tmps)=true then Oper.wp P o a w K Q else E:=by
  have hw:Region.wanted o (yielded ops a.tmps)=true:=by simp [Region.wanted,hgd]
  rw [if_pos hw];obtain ⟨i,z,hi,hz,hsize,hby,hzs⟩:=hin;obtain ⟨v',w',hr,h2,h3,h4⟩:=run_appL (P:=P) w t o.type e i z size bytes ht hi hz hsize hby hzs hsz v n xs hown ⟨g,0,none⟩ 1 1 news (by omega) (by
    intro j q hq;rw [Addr.add_lit,Nat.zero_add,hb.cell];simpa using hq) h1 (by omega) h63 hbytes
  unfold Oper.wp execOp;simp only [ho,resolve,invoke,builtin,Sem.run_bind,Sem.run_pure,Result.andThen_ok,List.map_toArray,List.map_cons,List.map_nil,hs,hx,hr];exact hk v' w' h2 h3 h4

theorem neg_one (n:Nat) (h:n+1≤70000):wrap64 (-((n:Int)+1))= -((n:Int)+1):=Go.IntWalk.wrap64_in _ (by omega)

def AddPost (wa:World) (bp:Nat) (sv:Value) (ps:List Pn) (n:Pn) (e:Ending) (w':World):Prop:=e=.returned (.int .i64 (-((ps.length:Int)+1)))∧∃lv',PlM wa w' bp sv (ps++[n]) lv'

theorem padd_any {ps:List Pn} (h:PlM wa w bp sv ps lv) (n:Pn) (hn:WtOk n.w) (h6:ps.length+1≤65536):Kc 275 #[.pointer (some ⟨bp,0,none⟩),.agg (encPl n).toArray] w (AddPost wa bp sv ps n):=by
  obtain ⟨la,lc,rfl⟩:=lst_slice (owR_lst h.lst);have HR:=hidden h;have HXN:Hid ((encPl n).length=38):=encPl_len hn;have HXL:Hid ((Tryz.prog.info? 333).map (·.size)=some (encPl n).length):=by show _=_;rw [HXN.out];exact size_pl
  have HX1:=hidden (encPl_one hn);have HN:=hidden hn;obtain ⟨nn,hnn⟩:∃q,q=ps.length:=⟨_,rfl⟩;obtain ⟨XS,hXS⟩:∃q,q=flatE encPl ps:=⟨_,rfl⟩;have HPost:Hid (∀w',(∃lv',PlM wa w' bp sv (ps++[n]) lv')→AddPost wa bp sv ps n (.returned (.int .i64 (-((nn:Int)+1)))) w'):=fun w' q=>⟨by rw [hnn],q⟩
  have H6:Hid (nn+1≤65536):=by rw [hnn];exact h6
  have HSN:Hid (∀w1 w4 lv',Kb w w1→w1.grownBy w4 (Value.slice la nn lc).ownBlock→Lst w4 333 38 lv' (nn+1) (XS++encPl n)→WhereL w1 (.slice la nn lc) lv'→PlM wa (w4.setCell ⟨bp,1,none⟩ lv') bp sv (ps++[n]) lv'):=fun w1 w4 lv' hb hg hl hw=>by
    rw [hnn] at hg hl hw;rw [hXS] at hl;exact HR.out.snoc hb hg n HN.out hl hw
  have HR0:Hid (w.ownsRow 0 333 38 (.slice la nn lc) nn XS):=by rw [hnn,hXS];exact owR_base h.lst (Nat.zero_le _)
  have HBK:Hid (Blk w bp 279 #[sv,.slice la nn lc]):=by rw [hnn];exact h.blk
  have HNL:Hid ((Value.slice la nn lc).ownBlock≠some bp):=by rw [hnn];exact h.lne
  have HLT:Hid (∀g,(Value.slice la nn lc).ownBlock=some g→g<w.heap.size):=fun g hg=>(HR0.out.lt g hg).2
  have hwn:wrap64 (-((nn:Int)+1))= -((nn:Int)+1):=neg_one nn (by have:=H6.out;omega);generalize hX:encPl n=X at HXN HXL HX1 HSN ⊢;generalize AddPost wa bp sv ps n=PP at HPost ⊢;rw [← hnn] at h;clear h h6 hn hnn hXS hX HN HR;go_enter Tryz.func275,Tryz.ntmps275
  go_wp2_with (first
    |((with_reducible refine at_bxd 3 ?_);refine wpList_bx _ rfl _ _ rfl _ rfl ?_;intro w2 b3 hg3 hl3 B3 q3;have HB3:=hidden B3;have HG3:=hidden hg3;have HQ3:=hidden q3;clear hg3 hl3 B3 q3))
  have HR2:=hidden (owR_grow HR0.out HQ3.out);have HS7:Hid (∀w',Kb w2 w'→w'.cell? ⟨bp,1,none⟩=some (.slice la nn lc)∧w'.frozen? ⟨bp,1,none⟩=false∧w'.rangeAt b3 0 X):=fun w' hb=>by
    have B:=(HBK.out.grow HQ3.out).grow hb;refine ⟨by rw [B.cell];rfl,B.frozen 1,?_⟩;have:=(HB3.out.grow hb).range;simpa using this
  have HS75:Hid (∀w4 w5,Kb w2 w4→w4.grownBy w5 (Value.slice la nn lc).ownBlock→w5.cell? ⟨bp,1,none⟩=some (.slice la nn lc)∧w5.frozen? ⟨bp,1,none⟩=false∧w5.rangeAt b3 0 X):=fun w4 w5 hb hg=>by
    have md:Mod (Value.slice la nn lc).ownBlock.toList w4 w5:=Mod.of_grown hg (fun k hk=>by simp [hk]);have B:=((HBK.out.grow HQ3.out).grow hb).mod md (fun q=>HNL.out (by simpa using q));have B3:=(HB3.out.grow hb).mod md (fun q=>by
      have:=HLT.out b3 (by simpa using q);have:=HG3.out;omega)
    refine ⟨by rw [B.cell];rfl,B.frozen 1,?_⟩;have:=B3.range;simpa using this
  go_wp2_with fail
  refine wp_region_last (S:=fun w'=>w'.cell? ⟨bp,1,none⟩=some (.slice la nn lc)∧w'.frozen? ⟨bp,1,none⟩=false∧w'.rangeAt b3 0 X) 10 (by kernel_rfl) (HS7.out _ (below_drewN (Below.refl _ _) 1)) (fun hHeld=>?_);refine tlp 0 (.pointer (some ⟨bp,0,none⟩)) hHeld ?_;simp only [Act.put,zq1,zq2,zq4,zq5,zq6];refine tlp 1 (.pointer (some ⟨bp,0,none⟩)) hHeld ?_;simp only [Act.put,zq1,zq2,zq3,zq4,zq5,zq6];refine tlp 2 (.pointer (some ⟨bp,0,none⟩)) hHeld ?_;simp only [Act.put,zq1,zq2,zq3,zq4,zq5,zq6];refine tlp 3 (.pointer (some ⟨bp,1,none⟩)) hHeld ?_;simp only [Act.put,zq1,zq2,zq3,zq4,zq5,zq6];refine tlg 4 (.slice la nn lc) rfl (Or.inl ⟨by rfl,fun w hS=>by (have q1:=hS.1;go_simp)⟩) hHeld ?_;simp only [Act.put,zq1,zq2,zq3,zq4,zq5,zq6];refine tlg 5 (.agg X.toArray) rfl (yieldsIf_load_mid rfl 333 (.tmp 3) rfl b3 0 rfl X _ (fun w hS=>hS.2.2) Tryz.underlying333 rfl HXL.out) hHeld ?_;simp only [Act.put,zq1,zq2,zq3,zq4,zq5,zq6];refine wpAnyL_one (i:=6) rfl (by kernel_rfl) (fun KQ hK=>?_);have a4:Kb w2 (w2.drew.alloc (.cells X.toArray 333)):=grow_trans (below_drewN (Below.refl w2.heap.size w2) 1) (grow_alloc w2.drew (.cells X.toArray 333));refine step_bsp1 _ rfl _ rfl X rfl HXN.out ?_;refine hK.out _ _ (HS7.out _ a4) (fun hHeld=>?_);clear hK KQ;have HR4:=hidden (owR_grow HR2.out a4);refine wpAnyL_one (i:=7) rfl (by kernel_rfl) (fun KQ hK=>?_);refine step_appL11 _ rfl _ _ _ rfl 333 38 96 Tryz.underlying277 info_pl (by omega) _ nn XS rfl HR4.out w2.drew.heap.size X rfl (Blk.new _ _ _) HXN.out HX1.out (by have:=H6.out;simp only [maxLen];omega) (by have:=H6.out;omega) ?_;intro v5 w5 l5 g5 wh5;have hS5:=HS75.out _ w5 a4 g5;obtain ⟨a5,c5,rfl⟩:=lst_slice l5;refine hK.out _ _ hS5 (fun hHeld=>?_);clear hK KQ;refine tlp 8 (.pointer (some ⟨bp,0,none⟩)) hHeld ?_;simp only [Act.put,zq1,zq2,zq3,zq4,zq5,zq6];refine tlp 9 (.pointer (some ⟨bp,1,none⟩)) hHeld ?_;simp only [Act.put,zq1,zq2,zq3,zq4,zq5,zq6];obtain ⟨hc1,hc2,_⟩:=hHeld;refine wpAnyL_last rfl (by kernel_rfl) (by kernel_rfl) (fun KQ hK=>?_);go_simp
  
  refine hK.out _ _ ?_;clear hK KQ;have HPL:=hidden (HSN.out _ _ _ (grow_trans HQ3.out a4) g5 l5 wh5);have hcl:=HPL.out.cells.2;generalize w5.setCell ⟨bp,1,none⟩ (.slice a5 (nn+1) c5)=w6 at *;clear hc1 hc2 hS5 l5 g5 wh5 a4;go_wp2
  have hfin:=HPost.out w6 ⟨_,HPL.out⟩;rw [← hwn] at hfin;exact hfin

end Go.Proofs.YtdjpigfibafokaaGreatDoor
