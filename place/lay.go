package place

import (
	"cmp"
	"slices"
)

// lay lays blocks, one after the other, till there is no room for the next one, or there are most of them: it tells how many, and on which devices the last one lies.
func lay(free []int, there []bool, copies, most int) (laid int, devs []int) {
	room, up := usable(free, there)
	wanted := min(copies, up) // fewer copies are laid just where devices are missing
blocks:
	for laid < most {
		able := 0
		for dev := range len(room) {
			if room[dev] == 0 {
				continue
			}
			if able++; able == wanted {
				devs = fullest(room)[:wanted]
				take(room, devs)
				laid++
				continue blocks
			}
		}
		break // fewer can take one than are wanted
	}
	return laid, devs
}

// usable tells how many sectors each device has to give, one that is missing none, and how many devices are there.
func usable(free []int, there []bool) (room []int, up int) {
	room = make([]int, len(free))
	for dev, is := range there {
		if is {
			room[dev] = free[dev]
			up++
		}
	}
	return room, up
}

// fullest tells all devices, by falling room: those that can take none are the last ones.
func fullest(room []int) []int {
	devs := make([]int, len(room))
	for dev := range devs {
		devs[dev] = dev
	}
	slices.SortStableFunc(devs, func(a, b int) int { return cmp.Compare(room[b], room[a]) })
	return devs
}

// take makes the room one sector less on each of the devices.
func take(room, devs []int) {
	for _, dev := range devs {
		room[dev]--
	}
}
